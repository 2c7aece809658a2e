/- Texts joined: Nn, Num. -/
import Derived.Test.YtnonghacjfgnmaaJbAo
/- No region, no device. -/
namespace Go.Proofs.Ytnonghacjfgnmaa
open Go.RowKit Ap
attribute [local go_sem ↓] Go.wp_at_zero Go.wp_at_succ

theorem NoRegion.grown {w w' : World} {p : Option Addr} (h : NoRegion w p) (hg : w.grownBy w' none) : NoRegion w' p := h.imp id (fun ⟨a, e, hc⟩ => ⟨a, e, hg.cell hc (by simp)⟩)
section
variable {w : World} {p : Option Addr}
set_option maxHeartbeats 400000 in
theorem gmay_none (h : NoRegion w p) (at_ m : Int) : Calls Try.prog 39 #[.pointer p, .int .i64 at_, .int .i64 m] w fun e w' => e = .returned (.int .i64 1) ∧ w' = w := by
  have H := hide (gnone_no p w h)
  clear h
  go_enter Try.func39, Try.ntmps39
  go_wp2_with fail
  refine H.out.mono ?_
  rintro e w' ⟨rfl, rfl⟩
  go_wp2
  go_ret
  exact ⟨rfl, rfl⟩
set_option maxHeartbeats 400000 in
theorem gRead_none (h : NoRegion w p) (at_ m : Int) : Calls Try.prog 8 #[.pointer p, .int .i64 at_, .int .i64 m] w fun e w' => e = .returned (.tuple #[.slice none 0 0, .int .i64 1]) ∧ w.grownBy w' none := by
  have G1 := hide (World.grownBy_alloc w (.cells #[.pointer p] 22) none)
  have N1 : Hid ((w.alloc (.cells #[.pointer p] 22)).heap[w.heap.size]? = some (.cells #[.pointer p] 22 (0, 0))) := heap_alloc_new w _
  have c0 : (w.alloc (.cells #[.pointer p] 22)).cell? ⟨w.heap.size, 0, none⟩ = some (.pointer p) := cell_row (l := [_]) N1.out 0
  have H := hide (gmay_none (h.grown G1.out) at_ m)
  clear h
  go_enter Try.func8, Try.ntmps8
  go_wp2_with fail
  refine H.out.mono ?_
  rintro e w' ⟨rfl, rfl⟩
  go_wp2
  go_ret2
  exact ⟨rfl, G1.out⟩
set_option maxHeartbeats 400000 in
theorem gWrite_none (h : NoRegion w p) (at_ : Int) : Calls Try.prog 9 #[.pointer p, .int .i64 at_, .slice none 0 0] w fun e w' => e = .returned (.int .i64 1) ∧ w.grownBy w' none := by
  have g1 := World.grownBy_alloc w (.cells #[.pointer p] 22) none
  have g2 := World.grownBy_alloc (w.alloc (.cells #[.pointer p] 22)) (.cells #[.slice none 0 0] 31) none
  have z1 : (w.alloc (.cells #[.pointer p] 22)).heap.size = w.heap.size + 1 := Array.size_push ..
  have n1 : (w.alloc (.cells #[.pointer p] 22)).heap[w.heap.size]? = some (.cells #[.pointer p] 22 (0, 0)) := heap_alloc_new w _
  have n2 := heap_alloc_new (w.alloc (.cells #[.pointer p] 22)) (.cells #[.slice none 0 0] 31)
  rw [z1] at n2
  have n1' := (g2.block _ (row_lt n1) (by simp)).trans n1
  have G1 := hide (grown_trans g1 g2)
  have c0 : ((w.alloc (.cells #[.pointer p] 22)).alloc (.cells #[.slice none 0 0] 31)).cell? ⟨w.heap.size, 0, none⟩ = some (.pointer p) := cell_row (l := [_]) n1' 0
  have c1 : ((w.alloc (.cells #[.pointer p] 22)).alloc (.cells #[.slice none 0 0] 31)).cell? ⟨w.heap.size + 1, 0, none⟩ = some (.slice none 0 0) := cell_row (l := [_]) n2 0
  have H := hide (gmay_none (h.grown G1.out) at_ 0)
  clear h g1 g2 z1 n1 n2 n1'
  go_enter Try.func9, Try.ntmps9
  go_wp2_with fail
  refine H.out.mono ?_
  rintro e w' ⟨rfl, rfl⟩
  go_wp2
  go_ret
  exact ⟨rfl, G1.out⟩
set_option maxHeartbeats 400000 in
theorem gSync_none (h : NoRegion w p) : Calls Try.prog 10 #[.pointer p] w fun e w' => e = .returned (.int .i64 1) ∧ w' = w := by
  have H := hide (gnone_no p w h)
  clear h
  go_enter Try.func10, Try.ntmps10
  go_wp2_with fail
  refine H.out.mono ?_
  rintro e w' ⟨rfl, rfl⟩
  go_wp2
  go_ret
  exact ⟨rfl, rfl⟩
set_option maxHeartbeats 400000 in
theorem gBytes_none (h : NoRegion w p) : Calls Try.prog 11 #[.pointer p] w fun e w' => e = .returned (.int .i64 0) ∧ w' = w := by
  have H := hide (gnone_no p w h)
  clear h
  go_enter Try.func11, Try.ntmps11
  go_wp2_with fail
  refine H.out.mono ?_
  rintro e w' ⟨rfl, rfl⟩
  go_wp2
  go_ret
  exact ⟨rfl, rfl⟩
set_option maxHeartbeats 400000 in
theorem gSize_none (h : NoRegion w p) : Calls Try.prog 12 #[.pointer p] w fun e w' => e = .returned (.int .i64 0) ∧ w' = w := by
  have H := hide (gnone_no p w h)
  clear h
  go_enter Try.func12, Try.ntmps12
  go_wp2_with fail
  refine H.out.mono ?_
  rintro e w' ⟨rfl, rfl⟩
  go_wp2
  go_ret
  exact ⟨rfl, rfl⟩
set_option maxHeartbeats 400000 in
theorem gCount_none (h : NoRegion w p) : Calls Try.prog 13 #[.pointer p] w fun e w' => e = .returned (.int .i64 0) ∧ w' = w := by
  have H := hide (gnone_no p w h)
  clear h
  go_enter Try.func13, Try.ntmps13
  go_wp2_with fail
  refine H.out.mono ?_
  rintro e w' ⟨rfl, rfl⟩
  go_wp2
  go_ret
  exact ⟨rfl, rfl⟩
set_option maxHeartbeats 400000 in
theorem gDown_none (h : NoRegion w p) : Calls Try.prog 14 #[.pointer p] w fun e w' => e = .returned (.bool false) ∧ w' = w := by
  have H := hide (gnone_no p w h)
  clear h
  go_enter Try.func14, Try.ntmps14
  go_wp2_with fail
  refine H.out.mono ?_
  rintro e w' ⟨rfl, rfl⟩
  go_wp2
  go_ret
  exact ⟨rfl, rfl⟩
end
/-- No device: nil, or none that was made. -/
def NoDev (w : World) (p : Option Addr) : Prop := p = none ∨ ∃ b, p = some ⟨b, 0, none⟩ ∧ w.cell? ⟨b, 1, none⟩ = some (.bool false)
theorem NoDev.is {w : World} {p : Option Addr} (h : NoDev w p) : Calls Try.prog 56 #[.pointer p] w fun e w' => e = .returned (.bool true) ∧ w' = w := by
  rcases h with rfl | ⟨b, rfl, hc⟩
  · exact dnone_nil w
  · exact dnone_at b false w hc
set_option maxHeartbeats 400000 in
theorem dsectors_none {w : World} {p : Option Addr} (h : NoDev w p) : Calls Try.prog 55 #[.pointer p] w fun e w' => e = .returned (.int .i64 0) ∧ w' = w := by
  have H := hide h.is
  clear h
  go_enter Try.func55, Try.ntmps55
  go_wp2_with fail
  refine H.out.mono ?_
  rintro e w' ⟨rfl, rfl⟩
  go_wp2
  go_ret
  exact ⟨rfl, rfl⟩
set_option maxHeartbeats 1000000 in
theorem gnew_none {w : World} {p : Option Addr} (h : NoDev w p) (F C : Int) : Calls Try.prog 16 #[.pointer p, .agg #[.int .i64 F, .int .i64 C]] w fun e w' => e = .returned (.tuple #[.pointer none, .int .i64 1]) ∧ w.grownBy w' none := by
  have G1 := hide (World.grownBy_alloc w (.cells #[.int .i64 F, .int .i64 C] 25) none)
  have H : Hid (Calls Try.prog 55 #[.pointer p] (w.alloc (.cells #[.int .i64 F, .int .i64 C] 25)) fun e w' => e = .returned (.int .i64 0) ∧ w' = w.alloc (.cells #[.int .i64 F, .int .i64 C] 25)) := dsectors_none (h.imp id (fun ⟨b, e, hc⟩ => ⟨b, e, G1.out.cell hc (by simp)⟩))
  clear h
  go_enter Try.func16, Try.ntmps16
  go_wp2_with fail
  refine H.out.mono ?_
  rintro e w' ⟨rfl, rfl⟩
  go_wp2
  go_ret2
  exact ⟨rfl, G1.out⟩
end Go.Proofs.Ytnonghacjfgnmaa
/- RegionNumbers. -/
namespace Go.Proofs.Ytnonghacjfgnmaa
open Go.RowKit Ap
attribute [local go_sem ↓] Go.wp_at_zero Go.wp_at_succ

theorem num_pcn : pcn 64 256 0 = 0 ∧ pcn 64 0 0 = 0 ∧ pcn 64 0 1 = 1 := by decide
theorem num_wgo1 : wgo (full 64 0 1) 1 0 ⟨true, -1, 0⟩ = (0, 60, ⟨true, -1, 0⟩) := rfl
set_option maxRecDepth 20000 in
set_option maxHeartbeats 16000000 in
theorem numbers_any (w : World) : Calls Try.prog 3 #[] w fun e w' => e = .returned (.bool true) ∧ w.grownBy w' none := by
  have g1 := World.grownBy_alloc w (.cells #[.pointer none, .int .i64 0, .int .i64 0] 29) none
  have g2 := World.grownBy_alloc (w.alloc (.cells #[.pointer none, .int .i64 0, .int .i64 0] 29)) (.cells #[.pointer none, .pointer (some ⟨w.heap.size, 0, none⟩)] 22) none
  have z1 : (w.alloc (.cells #[.pointer none, .int .i64 0, .int .i64 0] 29)).heap.size = w.heap.size + 1 := Array.size_push ..
  have n1 : (w.alloc (.cells #[.pointer none, .int .i64 0, .int .i64 0] 29)).heap[w.heap.size]? = some (.cells #[.pointer none, .int .i64 0, .int .i64 0] 29 (0, 0)) := heap_alloc_new w _
  have n2 := heap_alloc_new (w.alloc (.cells #[.pointer none, .int .i64 0, .int .i64 0] 29)) (.cells #[.pointer none, .pointer (some ⟨w.heap.size, 0, none⟩)] 22)
  rw [z1] at n2
  have n1' := (g2.block _ (row_lt n1) (by simp)).trans n1
  have H1 : Hid (w.grownBy ((w.alloc (.cells #[.pointer none, .int .i64 0, .int .i64 0] 29)).alloc (.cells #[.pointer none, .pointer (some ⟨w.heap.size, 0, none⟩)] 22)) none ∧ ((w.alloc (.cells #[.pointer none, .int .i64 0, .int .i64 0] 29)).alloc (.cells #[.pointer none, .pointer (some ⟨w.heap.size, 0, none⟩)] 22)).cell? ⟨w.heap.size, 0, none⟩ = some (.pointer none) ∧ ((w.alloc (.cells #[.pointer none, .int .i64 0, .int .i64 0] 29)).alloc (.cells #[.pointer none, .pointer (some ⟨w.heap.size, 0, none⟩)] 22)).cell? ⟨w.heap.size + 1, 0, none⟩ = some (.pointer none) ∧ ((w.alloc (.cells #[.pointer none, .int .i64 0, .int .i64 0] 29)).alloc (.cells #[.pointer none, .pointer (some ⟨w.heap.size, 0, none⟩)] 22)).cell? ⟨w.heap.size + 1, 1, none⟩ = some (.pointer (some ⟨w.heap.size, 0, none⟩))) :=
    ⟨grown_trans g1 g2, cell_row (l := [_, _, _]) n1' 0, cell_row (l := [_, _]) n2 0, cell_row (l := [_, _]) n2 1⟩
  clear g1 g2 z1 n1 n2 n1'
  go_enter Try.func3, Try.ntmps3
  go_wp2
  generalize (w.alloc (.cells #[.pointer none, .int .i64 0, .int .i64 0] 29)).alloc (.cells #[.pointer none, .pointer (some ⟨w.heap.size, 0, none⟩)] 22) = w1 at *
  generalize w.heap.size + 1 = G at *
  generalize w.heap.size = Z at *
  go_loopg [29] 2 (fun q i wr => ∃ j : Nat, q + j = 2 ∧ i = .int .i64 j ∧ Hid (w1.grownBy wr none))
  case atStart => exact ⟨0, by omega, rfl, hide (grown_refl _ _)⟩
  case round =>
    obtain ⟨j, hkj, rfl, HR⟩ := hrel
    by_cases hk : 0 < gk
    · obtain ⟨p, hp, hno⟩ : ∃ p, wr.cell? ⟨G, j, none⟩ = some (.pointer p) ∧ Hid (NoRegion wr p) := by
        have hj : j = 0 ∨ j = 1 := by omega
        rcases hj with rfl | rfl
        · exact ⟨none, HR.out.cell H1.out.2.2.1 (by simp), .inl rfl⟩
        · exact ⟨some ⟨Z, 0, none⟩, HR.out.cell H1.out.2.2.2 (by simp), .inr ⟨_, rfl, HR.out.cell H1.out.2.1 (by simp)⟩⟩
      have h0 : (0 : Int) ≤ (j : Int) := by omega
      have h1 : (j : Int) < 2 := by omega
      go_wp2_with fail
      refine (gRead_none hno.out 0 0).mono ?_
      rintro e w2 ⟨rfl, g2⟩
      have H2 := hide (And.intro (hno.out.grown g2) (grown_trans HR.out g2))
      clear g2 hp
      go_wp2_with fail
      refine (gWrite_none H2.out.1 0).mono ?_
      rintro e w3 ⟨rfl, g3⟩
      have H3 := hide (And.intro (H2.out.1.grown g3) (grown_trans H2.out.2 g3))
      clear g3
      go_wp2_with fail
      refine (gSync_none H3.out.1).mono ?_
      rintro e w' ⟨rfl, rfl⟩
      go_wp2_with fail
      refine (gBytes_none H3.out.1).mono ?_
      rintro e w' ⟨rfl, rfl⟩
      go_wp2_with fail
      refine (gSize_none H3.out.1).mono ?_
      rintro e w' ⟨rfl, rfl⟩
      go_wp2_with fail
      refine (gCount_none H3.out.1).mono ?_
      rintro e w' ⟨rfl, rfl⟩
      go_wp2_with fail
      refine (gDown_none H3.out.1).mono ?_
      rintro e w' ⟨rfl, rfl⟩
      go_wp2
      go_roundg (gk - 1)
      case measure => omega
      case rel => exact ⟨j + 1, by omega, by go_num, hide H3.out.2⟩
    · have hj : j = 2 := by omega
      subst hj
      have G0 := hide (grown_trans H1.out.1 HR.out)
      clear H1 HR
      go_wp2_with fail
      refine (device_any w wr 3 0 G0.out).mono ?_
      rintro e w2 ⟨p, rfl, p1, p2, ⟨p3, p4, p5, p6, p7⟩, p8, p9⟩
      obtain ⟨b, s, k, D, W, c, t, q⟩ := p
      simp only at p3 p4 p5 p6 p7
      subst p3 p5 p6 p7
      have D2 : Hid (Dev w w2 4 64 b (frD 0) k (zs (4 * 64)) []) := p1.dev
      clear p1 p2 p4 p8 p9
      go_wp2_with fail
      refine (gnew_none (p := none) (.inl rfl) 0 1).mono ?_
      rintro e w3 ⟨rfl, g3⟩
      have D3 := hide (D2.out.then g3)
      clear g3
      go_wp2_with fail
      have g4 := World.grownBy_alloc w3 (.cells #[.pointer none, .bool false, .bool false, .int .i64 0, .int .i64 0] 46) none
      have n4 : (w3.alloc (.cells #[.pointer none, .bool false, .bool false, .int .i64 0, .int .i64 0] 46)).cell? ⟨w3.heap.size, 1, none⟩ = some (.bool false) := cell_row (l := [_, _, _, _, _]) (heap_alloc_new w3 _) 1
      have D4 := hide (And.intro (D3.out.then g4) n4)
      clear g4 n4 D3
      generalize w3.alloc (.cells #[.pointer none, .bool false, .bool false, .int .i64 0, .int .i64 0] 46) = w4 at *
      generalize w3.heap.size = X at *
      refine (gnew_none (p := some ⟨X, 0, none⟩) (.inr ⟨X, rfl, D4.out.2⟩) 0 0).mono ?_
      rintro e w5 ⟨rfl, g5⟩
      have D5 := hide (D4.out.1.then g5)
      clear g5 D4
      go_wp2_with fail
      refine (gnew_bad D5.out 0 0 (by omega) (by unfold spanOk; omega)).mono ?_
      rintro e w6 ⟨rfl, g6⟩
      have D6 := hide (D5.out.then g6)
      clear g6 D5
      go_wp2_with fail
      refine (gnew_at D6.out 0 4 (by unfold spanOk; omega)).mono ?_
      rintro e w7 ⟨r, rfl, r7, _, g7⟩
      have D7 := hide (And.intro (D6.out.then g7) r7)
      clear g7 r7 D6
      have hcn : Hid (Calls Try.prog 17 #[.pointer (some ⟨b, 0, none⟩)] w7 fun e w' => e = .returned (.int .i64 0) ∧ w' = w7) := count_any D7.out.1.dev
      go_wp2_with fail
      refine hcn.out.mono ?_
      rintro e w' ⟨rfl, rfl⟩
      go_wp2_with fail
      refine (gRead_bad D7.out.1 D7.out.2 (by omega) 256 1 (by omega) (by decide)).mono ?_
      rintro e w8 ⟨rfl, g8⟩
      have D8 := hide (And.intro (D7.out.1.then g8) (D7.out.2.grown g8))
      clear g8 D7 hcn
      go_wp2_with fail
      refine (gRead_at D8.out.1 D8.out.2 (by omega) 256 0 (by omega) (by rw [num_pcn.1]; decide)).mono ?_
      rintro e w9 ⟨v, x, rfl, hx⟩
      have hx0 : x = 0 := by rw [hx.code, rgo_free]
      subst hx0
      obtain ⟨g9, rfl, _, _, _⟩ := hx.ok rfl
      have hd9 := hx.dev
      rw [rgo_free, num_pcn.1] at hd9
      have hr9 := D8.out.1.far D8.out.2.head (by decide) (by decide) (by decide) (by decide)
      have D9 : Hid (Dev w w9 4 64 b (frD 0) k (zs (4 * 64)) [] ∧ RgAt w9 r b 0 4) := ⟨hd9, D8.out.2.kept hx.kept (fun e => e.elim hr9.1 hr9.2)⟩
      clear hx hd9 hr9 D8
      go_wp2_with fail
      refine (arm_any D9.out.1.dev 0 (by omega)).mono ?_
      rintro e w10 ⟨rfl, d10, g10⟩
      rw [show (frD 0).upc = 0 from rfl]
      have hr10 : some r ≠ some b := fun e => by have e := Option.some.inj e; have h1 := D9.out.2.head; rw [e, D9.out.1.dev.head] at h1; simp at h1
      have D10 : Hid (Dev w w10 4 64 b ⟨false, 0, 0⟩ k (zs (4 * 64)) [] ∧ RgAt w10 r b 0 4) := ⟨D9.out.1.dset g10 d10, ⟨(g10.block _ D9.out.2.lt hr10).trans D9.out.2.head⟩⟩
      clear d10 g10 D9 hr10
      have hsy : Hid (Calls Try.prog 10 #[.pointer (some ⟨r, 0, none⟩)] w10 fun e w' => e = .returned (.int .i64 60) ∧ SyncPost w w10 w' 4 64 b ⟨false, 0, 0⟩ k (zs (4 * 64)) []) := gSync_at D10.out.1 D10.out.2 (by decide)
      go_wp2_with fail
      refine hsy.out.mono ?_
      rintro e w11 ⟨rfl, k11, D', W', d11, m11, e11, _⟩
      have D11 : Hid (Dev w w11 4 64 b ⟨true, -1, 0⟩ k11 D' W' ∧ abs W' = []) := ⟨d11, (Prod.mk.inj (show (D', abs W') = (zs (4 * 64), abs []) from e11)).2⟩
      clear d11 m11 e11 hsy D10
      have hW : W' = [] := by simpa [abs] using D11.out.2
      subst hW
      go_wp2_with fail
      refine (gnew_at D11.out.1 3 1 (by unfold spanOk; omega)).mono ?_
      rintro e w12 ⟨q, rfl, r12, _, g12⟩
      have D12 := hide (And.intro (D11.out.1.then g12) r12)
      clear g12 r12 D11
      have hdn : Hid (Calls Try.prog 14 #[.pointer (some ⟨q, 0, none⟩)] w12 fun e w' => e = .returned (.bool true) ∧ w' = w12) := gDown_at D12.out.1 D12.out.2
      go_wp2_with fail
      refine hdn.out.mono ?_
      rintro e w' ⟨rfl, rfl⟩
      clear hdn
      go_wp2_with fail
      have g13 := World.grownBy_alloc w' (.cells #[.int .u8 1] 5) none
      have n13 : (w'.alloc (.cells #[.int .u8 1] 5)).heap[w'.heap.size]? = some (.cells (bv [1]).toArray 5 (0, 0)) := heap_alloc_new w' _
      have D13 : Hid (Dev w (w'.alloc (.cells #[.int .u8 1] 5)) 4 64 b ⟨true, -1, 0⟩ k11 D' [] ∧ RgAt (w'.alloc (.cells #[.int .u8 1] 5)) q b 3 1 ∧ (w'.alloc (.cells #[.int .u8 1] 5)).heap[w'.heap.size]? = some (.cells (bv [1]).toArray 5 (0, 0)) ∧ ¬ k11.own w'.heap.size ∧ w'.heap.size ≠ b) := by
        refine ⟨D12.out.1.then g13, D12.out.2.grown g13, n13, fun e => ?_, fun e => ?_⟩
        · have := D12.out.1.disk.disk.lt _ (.inl e); omega
        · have := D12.out.1.dev.lt; omega
      clear g13 n13 D12
      generalize w'.alloc (.cells #[.int .u8 1] 5) = w13 at *
      generalize w'.heap.size = A at *
      have hw := gWrite_at D13.out.1 D13.out.2.1 (by omega) 0 1 (some ⟨A, 0, none⟩) [1] (at_row D13.out.2.2.1) (by simp) (by simp) (fun a e _ => by cases e; exact D13.out.2.2.2) (by show 0 + pcn 64 0 1 ≤ _; rw [num_pcn.2.2]; omega) (by show 0 + 2 * pcn 64 0 1 < _; rw [num_pcn.2.2]; omega)
      refine hw.mono ?_
      clear hw
      rintro e w14 ⟨x, rfl, hx⟩
      have hwg : wgo (full 64 0 [1].length) (pcn 64 0 [1].length) 0 ⟨true, -1, 0⟩ = (0, 60, ⟨true, -1, 0⟩) := by rw [show [1].length = 1 from rfl, num_pcn.2.2]; exact num_wgo1
      have hx0 : x = 60 := by rw [hx.code, hwg]
      subst hx0
      obtain ⟨k14, W14, d14, m14, e14⟩ := hx.left
      rw [hwg] at d14 e14
      have hW : W14 = [] := by simpa [abs, pcs] using e14
      subst hW
      have hr14 := D13.out.1.far D13.out.2.1.head (by decide) (by decide) (by decide) (by decide)
      have D14 : Hid (Dev w w14 4 64 b ⟨true, -1, 0⟩ k14 D' [] ∧ RgAt w14 q b 3 1) := ⟨d14, D13.out.2.1.kept m14.kept (fun e => e.elim hr14.1 hr14.2)⟩
      clear hx hwg d14 m14 e14 hr14 D13
      go_wp2_with fail
      have hw := gWrite_at D14.out.1 D14.out.2 (by omega) 0 0 none [] (At.nil _ _) (by simp) (by simp) (fun a e => by cases e) (by show 0 + pcn 64 0 0 ≤ _; rw [num_pcn.2.1]; omega) (by show 0 + 2 * pcn 64 0 0 < _; rw [num_pcn.2.1]; omega)
      refine hw.mono ?_
      clear hw
      rintro e w15 ⟨x, rfl, hx⟩
      have hx0 : x = 0 := by rw [hx.code, show [].length = 0 from rfl, num_pcn.2.1]; rfl
      subst hx0
      obtain ⟨k15, W15, d15, _, _⟩ := hx.left
      have G15 := hide d15.disk.grown
      clear hx d15 D14
      go_wp2_with fail
      refine (awake_any _).mono ?_
      rintro e w16 ⟨rfl, g16⟩
      have G16 := hide (grown_trans G15.out g16)
      clear g16
      go_wp2
      go_ret
      exact ⟨rfl, G16.out⟩
end Go.Proofs.Ytnonghacjfgnmaa
