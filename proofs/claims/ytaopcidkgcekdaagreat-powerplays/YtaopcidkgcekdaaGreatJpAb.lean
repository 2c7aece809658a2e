/- Texts joined: Flr2. -/
import Derived.Test.YtaopcidkgcekdaaGreatJpAa
/- The contract of flatRows, of two lists. -/
namespace Go.Proofs.YtaopcidkgcekdaaGreat
open Go.RowKit Ap
attribute [local go_sem ↓] Go.wp_at_zero Go.wp_at_succ

set_option maxRecDepth 20000 in
set_option maxHeartbeats 16000000 in
theorem flatRows_two (LS N : Nat) (A : Nat → Nat) (w : World) (hN : 1 ≤ N) (hN8 : N ≤ 8) (hF : FB w LS A N w.heap.size) :
    Calls Tryz.prog 88 #[.slice (some ⟨LS, 0, none⟩) 2 2] w fun e w' => e = .returned (.bool true) ∧ Kept w w' (fun i => i = A 0 ∨ i = A 1) := by
  have H0 : Hid (F1 w w LS A N w.heap.size (fun k' _ => k' < 0)) := ⟨hF, fun k j _ _ h => by omega, Kept.refl _ _⟩
  clear hF
  go_enter Tryz.func88, Tryz.ntmps88
  go_wp2
  go_loopg [3] 2 (fun q kv wr => ∃ k : Nat, q + k = 2 ∧ kv = .int .i64 (k : Int) ∧ Hid (F1 w wr LS A N w.heap.size (fun k' _ => k' < k)))
  case atStart => exact ⟨0, by omega, rfl, H0⟩
  case round =>
    clear H0
    obtain ⟨k, hqk, rfl, HR⟩ := hrel
    by_cases hk : 0 < gk
    · have hk2 : k < 2 := by omega
      have hk2i : (k : Int) < 2 := by omega
      go_wp2
      go_loopg [4] N (fun q iv wr2 => ∃ i : Nat, q + i = N ∧ iv = .int .i64 (i : Int) ∧ Hid (F1 w wr2 LS A N w.heap.size (fun k' j => k' < k ∨ (k' = k ∧ j < i))))
      case atStart => exact ⟨0, by omega, rfl, hide ⟨HR.out.fb, HR.out.ms.mono (fun k' j _ _ h => by omega), HR.out.kp⟩⟩
      case round =>
        clear HR
        obtain ⟨i, hqi, rfl, HR⟩ := hrel
        have c0 := HR.out.fb.ls k hk2
        by_cases hi : 0 < gk
        · have hi2 : i < N := by omega
          have hiN : (i : Int) < (N : Int) := by omega
          obtain ⟨xs, hx1, hx2⟩ := HR.out.fb.row k hk2
          have hnA : Hid (LS ≠ A k) := HR.out.fb.lsA hk2
          have hcl : wr.cell? ⟨A k, i, none⟩ = some (xs[i]'(by omega)) := by rw [cell_row hx1]; exact List.getElem?_eq_getElem (by omega)
          have hfz : wr.frozen? ⟨A k, i, none⟩ = false := free_row hx1 i
          have HM := hide (fun w' => markRow_any k i w' (by omega) (by omega))
          generalize (xs[i]'(by omega)) = old at *
          clear hx1 hx2
          generalize hAk : A k = Ak at *
          have HAK := hide hAk
          clear hAk
          go_wp2_with fail
          go_region_held3 (fun w' => w'.cell? ⟨LS, k, none⟩ = some (.slice (some ⟨Ak, 0, none⟩) N N)) (first | exact c0 | assumption | (refine (cell_far _ _ _ _ (show LS ≠ Ak from hnA.out)).trans ?_; assumption) | go_keep) (first
            | (go_at_call 114; refine (HM.out _).mono ?_; rintro e w2 ⟨g, c, rfl, mk2, g2⟩; have g2' := grown_trans (grown_drew wr none) g2; have c0' := g2'.cell c0 (by simp); have hcl' := g2'.cell hcl (by simp); have hfz' : w2.frozen? ⟨Ak, i, none⟩ = false := (by obtain ⟨xs2, hy1, _⟩ := (HR.out.fb.grow (Grow.none g2')).row k hk2; rw [HAK.out] at hy1; exact free_row hy1 i); have R2 := hide (And.intro mk2 g2'); clear mk2 g2 g2'))
          clear c0 c0' hcl hcl' hfz hfz'
          go_wp2
          go_roundg (gk - 1)
          case measure => omega
          case rel =>
            have h := (HR.out.grow (Grow.none R2.out.2) (Nat.le_refl _)).store (k := k) (i := i) hk2 hi2 R2.out.1 (c' := fun k' j => k' < k ∨ (k' = k ∧ j < i + 1)) (fun k' j _ _ h => by omega)
            rw [HAK.out] at h
            exact ⟨i + 1, by omega, by go_num, hide h⟩
        · have hie : i = N := by omega
          have hiN : ¬ (i : Int) < (N : Int) := by omega
          go_wp2
          go_roundg (2 - (k + 1))
          case measure => omega
          case rel => exact ⟨k + 1, by omega, by go_num, hide ⟨HR.out.fb, HR.out.ms.mono (fun k' j _ hj h => by omega), HR.out.kp⟩⟩
    · have hke : k = 2 := by omega
      subst hke
      have hmk := make_two
      obtain ⟨S, hS⟩ : ∃ S, S = w.heap.size := ⟨_, rfl⟩
      have HS0 : Hid (w.heap.size ≤ S) := Nat.le_of_eq hS.symm
      rw [← hS] at HR
      clear hS
      have gG := World.grownBy_alloc wr (.cells [Value.slice none 0 0, .slice none 0 0].toArray 41) none
      have F20 : Hid (F2 w (wr.alloc (.cells [Value.slice none 0 0, .slice none 0 0].toArray 41)) LS A N S wr.heap.size (wr.heap.size + 1) (fun _ => .slice none 0 0) 0 (N + 64)) :=
        ⟨⟨HR.out.fb.grow (Grow.none gG), HR.out.ms.grow HR.out.fb (Grow.none gG) |>.mono (fun _ _ h _ _ => h), HR.out.kp.trans (Kept.new gG _) (fun _ _ e => e)⟩, heap_alloc_new wr _, HR.out.fb.top, by omega, by have := HR.out.fb.top; omega, by simp, fun k' hk' => by omega⟩
      clear gG HR
      go_wp2
      clear hmk
      generalize wr.alloc (.cells #[.slice none 0 0, .slice none 0 0] 41) = wg at *
      obtain ⟨G, hG⟩ : ∃ G, G = wr.heap.size := ⟨_, rfl⟩
      rw [← hG] at F20 ⊢
      clear hG
      go_loopg [6] 2 (fun q kv wr => ∃ (k : Nat) (T : Nat) (u : Nat → Value), q + k = 2 ∧ kv = .int .i64 (k : Int) ∧ Hid (F2 w wr LS A N S G T u k (N + 64)))
      case atStart => exact ⟨0, _, _, by omega, rfl, F20⟩
      case round =>
        clear F20
        obtain ⟨k, T0, u, hqk, rfl, HR⟩ := hrel
        by_cases hk : 0 < gk
        · have hk2 : k < 2 := by omega
          have hk2i : (k : Int) < 2 := by omega
          have c0 := HR.out.f1.fb.ls k hk2
          have HT := hide HR.out.top
          obtain ⟨T, hT⟩ : ∃ T, T = wr.heap.size := ⟨_, rfl⟩
          rw [← hT] at HT
          clear HR hT
          go_wp2
          go_loopg [7, 8] 64 (fun q gv iv wr2 => ∃ i : Nat, q + i = 64 ∧ iv = .int .i64 (i : Int) ∧ Hid (F2 w wr2 LS A N S G T u k (N + 64) ∧ GApp wr2 T gv (N + i) k ∧ (i = 0 ∨ GRow wr2 T gv (N + i) (N + i) k)))
          case atStart => exact ⟨0, by omega, rfl, hide ⟨HT.out, GApp.start HT.out hk2, Or.inl rfl⟩⟩
          case round =>
            clear HT c0
            obtain ⟨i, hqi, rfl, HR⟩ := hrel
            have c0 := HR.out.1.f1.fb.ls k hk2
            obtain ⟨go, gc, hgv⟩ := HR.out.2.1.form
            subst hgv
            by_cases hi : 0 < gk
            · have hi2 : (i : Int) < 64 := by omega
              have HM : Hid (∀ w', Calls Tryz.prog 114 #[.int .i64 (k : Int), .int .i64 ((N : Int) + (i : Int))] w' fun e w'' => ∃ g c, e = .returned (.slice (some ⟨g, 0, none⟩) 8 c) ∧ Mk w'' (.slice (some ⟨g, 0, none⟩) 8 c) k (N + i) ∧ w'.grownBy w'' none) := fun w' => by
                have := markRow_any k (N + i) w' (by omega) (by omega)
                rw [show ((N + i : Nat) : Int) = (N : Int) + (i : Int) by simp] at this
                exact this
              go_wp2_with fail
              refine (HM.out _).mono ?_
              rintro e w2 ⟨g, c, rfl, mk2, g2⟩
              have g3 := World.grownBy_alloc w2 (.cells #[.slice (some ⟨g, 0, none⟩) 8 c] 32) none
              have g23 := grown_trans g2 g3
              have H3 := hide (And.intro (HR.out.1.grow (Grow.none g23) HS0.out) (And.intro (HR.out.2.1.new g23) (mk2.kept g3 (fun r e => by cases e))))
              clear mk2 g2 g3 g23 c0
              obtain ⟨xs, hx1, hx2⟩ := H3.out.2.1
              have HX := hide (And.intro hx1 hx2)
              clear hx1 hx2
              go_wp2_with (at_builtin; refine wpList_app rfl (.tmp 57) (.tmp 67) rfl T (.slice go (N + i) gc) (N + i) xs rfl HX.out.1 ⟨w2.heap.size, 0, none⟩ 1 1 [.slice (some ⟨g, 0, none⟩) 8 c] rfl rfl (by decide) (fun j y hy => ?_) (fun y hy => ?_) (by omega) H3.out.1.tt ?_)
              · cases j with
                | zero => simp at hy; rw [← hy]; exact cell_new w2 _ 32
                | succ j => simp at hy
              · simp at hy; rw [hy]; rfl
              · intro v' w4 row ho hg4
                have hmks : ∀ i2 y, (xs ++ [Value.slice (some ⟨g, 0, none⟩) 8 c])[i2]? = some y → Mk w4 y k i2 := fun i2 y hy => by
                  by_cases h2 : i2 < xs.length
                  · rw [List.getElem?_append_left h2] at hy
                    exact (HX.out.2 i2 y hy).grow hg4
                  · have hl := (List.getElem?_eq_some_iff.1 hy).1
                    have hxl : xs.length = N + i := by
                      rcases HX.out.1 with ⟨_, _, _, h⟩ | h
                      · exact h
                      · simpa using h.1
                    have e : i2 = N + i := by simp at hl; omega
                    rw [List.getElem?_append_right (by omega), hxl, e, Nat.sub_self] at hy
                    simp at hy
                    rw [← hy, e]
                    exact H3.out.2.2.grow hg4
                have H4 := hide (And.intro (H3.out.1.grow hg4 HS0.out) (And.intro (show GApp w4 T v' (N + i + 1) k from ⟨_, Or.inr ho, hmks⟩) (show GRow w4 T v' (N + i + 1) (N + i + 1) k from ⟨_, ho, fun i2 y _ hy => hmks i2 y hy⟩)))
                clear hmks
                obtain ⟨vo, vc, hvf⟩ := H4.out.2.1.form
                subst hvf
                clear ho hg4
                go_wp2
                go_roundg (gk - 1)
                case measure => omega
                case rel => exact ⟨i + 1, by omega, by go_num, hide ⟨H4.out.1, H4.out.2.1, Or.inr H4.out.2.2⟩⟩
            · have hie : i = 64 := by omega
              subst hie
              have hi2 : ¬ ((64 : Nat) : Int) < 64 := by omega
              have hcG := HR.out.1.gcell hk2
              have hfG : wr.frozen? ⟨G, k, none⟩ = false := free_row HR.out.1.gb k
              go_wp2
              go_roundg (2 - (k + 1))
              case measure => omega
              case rel =>
                exact ⟨k + 1, _, _, by omega, by go_num, hide (HR.out.1.put hk2 HS0.out (HR.out.2.2.resolve_left (by omega)))⟩
        · have hke : k = 2 := by omega
          subst hke
          clear hqk
          go_wp2
          go_loopg [9] 2 (fun q kv wr => ∃ (k : Nat), q + k = 2 ∧ kv = .int .i64 (k : Int) ∧ Hid (F2 w wr LS A N S G T0 u 2 (N + 64)))
          case atStart => exact ⟨0, by omega, rfl, HR⟩
          case round =>
            clear HR
            obtain ⟨k, hqk, rfl, HR⟩ := hrel
            by_cases hk : 0 < gk
            · have hk2 : k < 2 := by omega
              have hk2i : (k : Int) < 2 := by omega
              obtain ⟨M, hM⟩ : ∃ M, M = N + 64 := ⟨_, rfl⟩
              rw [← hM] at HR
              obtain ⟨gk', gcp, hu⟩ : ∃ g cap, u k = .slice (some ⟨g, 0, none⟩) M cap := by
                obtain ⟨g, cap, y, e, _⟩ := (HR.out.gr k (by omega)).1.cell (i := 0) (by omega) (by omega)
                exact ⟨g, cap, by rw [hM]; exact e⟩
              have HU := hide hu
              clear hu
              go_wp2
              go_loopg [10] M (fun q iv wr2 => ∃ i : Nat, q + i = M ∧ iv = .int .i64 (i : Int) ∧ Hid (F2 w wr2 LS A N S G T0 u 2 M))
              case atStart => exact ⟨0, by omega, rfl, HR⟩
              case round =>
                clear HR
                obtain ⟨i, hqi, rfl, HR⟩ := hrel
                have hcG := HR.out.gcell hk2
                rw [HU.out] at hcG
                by_cases hi : 0 < gk
                · have hi2 : (i : Int) < (M : Int) := by omega
                  have c0 := HR.out.f1.fb.ls k hk2
                  obtain ⟨g2, cap2, y, e2, hgc, hgm⟩ := (HR.out.gr k (by omega)).1.cell (i := i) (by omega) (by omega)
                  have e3 : g2 = gk' := by have := HU.out; rw [e2] at this; cases this; rfl
                  subst e3
                  have HGM := hide hgm
                  obtain ⟨yg, yc, hyf⟩ := hgm.form
                  subst hyf
                  clear hgm e2
                  have HM := hide (fun w' => markRow_any k i w' (by omega) (by omega))
                  by_cases hiN : i < N
                  · have hiNi : (i : Int) < (N : Int) := by omega
                    obtain ⟨z, hz1, hz2⟩ := HR.out.f1.ms k i hk2 hiN trivial
                    have HZ := hide hz2
                    obtain ⟨zg, zc, hzf⟩ := hz2.form
                    subst hzf
                    clear hz2
                    generalize A k = Ak at *
                    go_wp2_with fail
                    go_region_held3 (fun w' => w'.cell? ⟨G, k, none⟩ = some (.slice (some ⟨g2, 0, none⟩) M gcp) ∧ w'.cell? ⟨g2, i, none⟩ = some (.slice (some ⟨yg, 0, none⟩) 8 yc) ∧ w'.cell? ⟨LS, k, none⟩ = some (.slice (some ⟨Ak, 0, none⟩) N N) ∧ w'.cell? ⟨Ak, i, none⟩ = some (.slice (some ⟨zg, 0, none⟩) 8 zc)) (first | exact ⟨hcG, hgc, c0, hz1⟩ | assumption | go_keep) (first
                      | (have hx := Z1; clear hx; go_at_call 114; refine (HM.out _).mono ?_; rintro e w4 ⟨g4, c4, rfl, mk4, gg4⟩; have hS4 : w4.cell? ⟨G, k, none⟩ = some (.slice (some ⟨g2, 0, none⟩) M gcp) ∧ w4.cell? ⟨g2, i, none⟩ = some (.slice (some ⟨yg, 0, none⟩) 8 yc) ∧ w4.cell? ⟨LS, k, none⟩ = some (.slice (some ⟨Ak, 0, none⟩) N N) ∧ w4.cell? ⟨Ak, i, none⟩ = some (.slice (some ⟨zg, 0, none⟩) 8 zc) := ⟨gg4.cell hS3.1 (by simp), gg4.cell hS3.2.1 (by simp), gg4.cell hS3.2.2.1 (by simp), gg4.cell hS3.2.2.2 (by simp)⟩; have Z2 := hide (And.intro mk4 (grown_trans Z1.out.2 gg4)); clear mk4 gg4)
                      | (have hx := Z0; clear hx; go_at_call 37; refine ((HGM.out.kept Z0.out.2 (fun r e => by cases e)).same Z0.out.1).mono ?_; rintro e w3 ⟨rfl, q3, rfl⟩; have hS3 : (w2.drewN q3).cell? ⟨G, k, none⟩ = some (.slice (some ⟨g2, 0, none⟩) M gcp) ∧ (w2.drewN q3).cell? ⟨g2, i, none⟩ = some (.slice (some ⟨yg, 0, none⟩) 8 yc) ∧ (w2.drewN q3).cell? ⟨LS, k, none⟩ = some (.slice (some ⟨Ak, 0, none⟩) N N) ∧ (w2.drewN q3).cell? ⟨Ak, i, none⟩ = some (.slice (some ⟨zg, 0, none⟩) 8 zc) := ⟨(grown_drewN w2 q3 none).cell hS2.1 (by simp), (grown_drewN w2 q3 none).cell hS2.2.1 (by simp), (grown_drewN w2 q3 none).cell hS2.2.2.1 (by simp), (grown_drewN w2 q3 none).cell hS2.2.2.2 (by simp)⟩; have Z1 := hide (And.intro True.intro (grown_trans Z0.out.2 (grown_drewN w2 q3 none))); clear Z0)
                      | (have hx := Z2; clear hx; go_at_call 37; refine ((HZ.out.kept Z2.out.2 (fun r e => by cases e)).same Z2.out.1).mono ?_; rintro e w5 ⟨rfl, q5, rfl⟩; have hS5 : (w4.drewN q5).cell? ⟨G, k, none⟩ = some (.slice (some ⟨g2, 0, none⟩) M gcp) ∧ (w4.drewN q5).cell? ⟨g2, i, none⟩ = some (.slice (some ⟨yg, 0, none⟩) 8 yc) ∧ (w4.drewN q5).cell? ⟨LS, k, none⟩ = some (.slice (some ⟨Ak, 0, none⟩) N N) ∧ (w4.drewN q5).cell? ⟨Ak, i, none⟩ = some (.slice (some ⟨zg, 0, none⟩) 8 zc) := ⟨(grown_drewN w4 q5 none).cell hS4.1 (by simp), (grown_drewN w4 q5 none).cell hS4.2.1 (by simp), (grown_drewN w4 q5 none).cell hS4.2.2.1 (by simp), (grown_drewN w4 q5 none).cell hS4.2.2.2 (by simp)⟩; have Z3 := hide (grown_trans Z2.out.2 (grown_drewN w4 q5 none)))
                      | (go_at_call 114; refine (HM.out _).mono ?_; rintro e w2 ⟨g1, c1, rfl, mk1, gg1⟩; have gg := grown_trans (grown_drew wr none) gg1; have hS2 : w2.cell? ⟨G, k, none⟩ = some (.slice (some ⟨g2, 0, none⟩) M gcp) ∧ w2.cell? ⟨g2, i, none⟩ = some (.slice (some ⟨yg, 0, none⟩) 8 yc) ∧ w2.cell? ⟨LS, k, none⟩ = some (.slice (some ⟨Ak, 0, none⟩) N N) ∧ w2.cell? ⟨Ak, i, none⟩ = some (.slice (some ⟨zg, 0, none⟩) 8 zc) := ⟨gg.cell hcG (by simp), gg.cell hgc (by simp), gg.cell c0 (by simp), gg.cell hz1 (by simp)⟩; have Z0 := hide (And.intro mk1 gg); clear mk1 gg1 gg))
                    clear hcG hgc c0 hz1 hS2 hS3 hS4 hS5
                    go_wp2
                    go_roundg (gk - 1)
                    case measure => omega
                    case rel => exact ⟨i + 1, by omega, by go_num, hide (HR.out.grow (Grow.none Z3.out) HS0.out)⟩
                  · have hiNi : ¬ (i : Int) < (N : Int) := by omega
                    have hiNd : decide ((i : Int) < (N : Int)) = false := decide_eq_false hiNi
                    generalize A k = Ak at *
                    go_wp2_with fail
                    refine wp_region_held_drew (S := (fun w' => w'.cell? ⟨G, k, none⟩ = some (.slice (some ⟨g2, 0, none⟩) M gcp) ∧ w'.cell? ⟨g2, i, none⟩ = some (.slice (some ⟨yg, 0, none⟩) 8 yc) ∧ w'.cell? ⟨LS, k, none⟩ = some (.slice (some ⟨Ak, 0, none⟩) N N))) (by kernel_rfl) ?_ (fun hHeld => ?_)
                    · (exact ⟨hcG, hgc, c0⟩)
                    refine wpAnyH_take (i := 0) (oi := { dst := some 88, op := Go.Op.move (Go.Operand.tmp 5), type := 77, pos := "rows.go:89", after := #[], guard := none }) (v := ?_) rfl (by kernel_rfl) (by kernel_rfl) (by kernel_rfl) (fun _ _ _ h => h) (Or.inl ⟨by rfl, ?_⟩) (by assumption) ?_
                    rotate_left
                    · (intro w hSw; (try dsimp only at hSw); (go_simp <;> with_reducible rfl))
                    try simp only [Act.put, List.setIfInBounds_toArray, List.set_cons_zero, List.set_cons_succ]
                    refine wpAnyH_take (i := 1) (oi := { dst := some 89, op := Go.Op.move (Go.Operand.tmp 9), type := 3, pos := "rows.go:89", after := #[], guard := none }) (v := ?_) rfl (by kernel_rfl) (by kernel_rfl) (by kernel_rfl) (fun _ _ _ h => h) (Or.inl ⟨by rfl, ?_⟩) (by assumption) ?_
                    rotate_left
                    · (intro w hSw; (try dsimp only at hSw); (go_simp <;> with_reducible rfl))
                    try simp only [Act.put, List.setIfInBounds_toArray, List.set_cons_zero, List.set_cons_succ]
                    refine wpAnyH_take (i := 2) (oi := { dst := some 90, op := Go.Op.indexAddr 77 (Go.Operand.tmp 88) (Go.Operand.tmp 89), type := 0, pos := "rows.go:89", after := #[{ on := 0, ground := Go.Ground.data }, { on := 1, ground := Go.Ground.data }], guard := none }) (v := ?_) rfl (by kernel_rfl) (by kernel_rfl) (by kernel_rfl) (fun _ _ _ h => h) (Or.inl ⟨by rfl, ?_⟩) (by assumption) ?_
                    rotate_left
                    · (intro w hSw; (try dsimp only at hSw); (go_simp <;> with_reducible rfl))
                    try simp only [Act.put, List.setIfInBounds_toArray, List.set_cons_zero, List.set_cons_succ]
                    refine wpAnyH_take (i := 3) (oi := { dst := some 91, op := Go.Op.load 41 (Go.Operand.tmp 90), type := 41, pos := "rows.go:89", after := #[{ on := 2, ground := Go.Ground.data }], guard := none }) (v := ?_) rfl (by kernel_rfl) (by kernel_rfl) (by kernel_rfl) (fun _ _ _ h => h) (Or.inl ⟨by rfl, ?_⟩) (by assumption) ?_
                    rotate_left
                    · (intro w hSw; (try dsimp only at hSw); (go_simp <;> with_reducible rfl))
                    try simp only [Act.put, List.setIfInBounds_toArray, List.set_cons_zero, List.set_cons_succ]
                    refine wpAnyH_take (i := 4) (oi := { dst := some 92, op := Go.Op.move (Go.Operand.tmp 10), type := 3, pos := "rows.go:89", after := #[], guard := none }) (v := ?_) rfl (by kernel_rfl) (by kernel_rfl) (by kernel_rfl) (fun _ _ _ h => h) (Or.inl ⟨by rfl, ?_⟩) (by assumption) ?_
                    rotate_left
                    · (intro w hSw; (try dsimp only at hSw); (go_simp <;> with_reducible rfl))
                    try simp only [Act.put, List.setIfInBounds_toArray, List.set_cons_zero, List.set_cons_succ]
                    refine wpAnyH_take (i := 5) (oi := { dst := some 93, op := Go.Op.indexAddr 41 (Go.Operand.tmp 91) (Go.Operand.tmp 92), type := 0, pos := "rows.go:89", after := #[{ on := 3, ground := Go.Ground.data }, { on := 4, ground := Go.Ground.data }], guard := none }) (v := ?_) rfl (by kernel_rfl) (by kernel_rfl) (by kernel_rfl) (fun _ _ _ h => h) (Or.inl ⟨by rfl, ?_⟩) (by assumption) ?_
                    rotate_left
                    · (intro w hSw; (try dsimp only at hSw); (go_simp <;> with_reducible rfl))
                    try simp only [Act.put, List.setIfInBounds_toArray, List.set_cons_zero, List.set_cons_succ]
                    refine wpAnyH_take (i := 6) (oi := { dst := some 94, op := Go.Op.load 32 (Go.Operand.tmp 93), type := 32, pos := "rows.go:89", after := #[{ on := 5, ground := Go.Ground.data }], guard := none }) (v := ?_) rfl (by kernel_rfl) (by kernel_rfl) (by kernel_rfl) (fun _ _ _ h => h) (Or.inl ⟨by rfl, ?_⟩) (by assumption) ?_
                    rotate_left
                    · (intro w hSw; (try dsimp only at hSw); (go_simp <;> with_reducible rfl))
                    try simp only [Act.put, List.setIfInBounds_toArray, List.set_cons_zero, List.set_cons_succ]
                    refine wpAnyH_take (i := 7) (oi := { dst := some 95, op := Go.Op.move (Go.Operand.tmp 9), type := 3, pos := "rows.go:89", after := #[], guard := none }) (v := ?_) rfl (by kernel_rfl) (by kernel_rfl) (by kernel_rfl) (fun _ _ _ h => h) (Or.inl ⟨by rfl, ?_⟩) (by assumption) ?_
                    rotate_left
                    · (intro w hSw; (try dsimp only at hSw); (go_simp <;> with_reducible rfl))
                    try simp only [Act.put, List.setIfInBounds_toArray, List.set_cons_zero, List.set_cons_succ]
                    refine wpAnyH_take (i := 8) (oi := { dst := some 96, op := Go.Op.move (Go.Operand.tmp 10), type := 3, pos := "rows.go:89", after := #[], guard := none }) (v := ?_) rfl (by kernel_rfl) (by kernel_rfl) (by kernel_rfl) (fun _ _ _ h => h) (Or.inl ⟨by rfl, ?_⟩) (by assumption) ?_
                    rotate_left
                    · (intro w hSw; (try dsimp only at hSw); (go_simp <;> with_reducible rfl))
                    try simp only [Act.put, List.setIfInBounds_toArray, List.set_cons_zero, List.set_cons_succ]
                    refine wpAnyH_ready (rs := [9]) (by kernel_rfl) (by simp) ?_
                    refine AllReadyH.cons (o := { dst := some 97, op := Go.Op.call { callee := Go.Callee.value (Go.Operand.func 114), args := #[Go.Operand.tmp 95, Go.Operand.tmp 96], argTypes := #[3, 3] }, type := 32, pos := "rows.go:89", after := #[{ on := 7, ground := Go.Ground.data }, { on := 8, ground := Go.Ground.data }], guard := none }) rfl (fun K hK => ?_) ?_
                    rotate_left
                    · exact AllReadyH.nil
                    go_simp
                    refine (HM.out _).mono ?_
                    rintro e w2 ⟨g1, c1, rfl, mk1, gg1⟩
                    have gg := grown_trans (grown_drew wr none) gg1
                    have hS2 : w2.cell? ⟨G, k, none⟩ = some (.slice (some ⟨g2, 0, none⟩) M gcp) ∧ w2.cell? ⟨g2, i, none⟩ = some (.slice (some ⟨yg, 0, none⟩) 8 yc) ∧ w2.cell? ⟨LS, k, none⟩ = some (.slice (some ⟨Ak, 0, none⟩) N N) := ⟨gg.cell hcG (by simp), gg.cell hgc (by simp), gg.cell c0 (by simp)⟩
                    have Z0 := hide (And.intro mk1 gg)
                    clear mk1 gg1 gg
                    go_wp2_with fail
                    refine hK.out _ _ ?_ (fun hHeld => ?_)
                    · ((try dsimp only); first | assumption | go_keep)
                    clear hK K
                    try simp only [Act.put, List.setIfInBounds_toArray, List.set_cons_zero, List.set_cons_succ]
                    refine wpAnyH_ready (rs := [10]) (by kernel_rfl) (by simp) ?_
                    refine AllReadyH.cons (o := { dst := some 98, op := Go.Op.call { callee := Go.Callee.value (Go.Operand.func 37), args := #[Go.Operand.tmp 94, Go.Operand.tmp 97], argTypes := #[32, 32] }, type := 4, pos := "rows.go:89", after := #[{ on := 6, ground := Go.Ground.data }, { on := 9, ground := Go.Ground.data }, { on := 9, ground := Go.Ground.chain }], guard := none }) rfl (fun K hK => ?_) ?_
                    rotate_left
                    · exact AllReadyH.nil
                    go_simp
                    refine ((HGM.out.kept Z0.out.2 (fun r e => by cases e)).same Z0.out.1).mono ?_
                    rintro e w3 ⟨rfl, q3, rfl⟩
                    have hS3 : (w2.drewN q3).cell? ⟨G, k, none⟩ = some (.slice (some ⟨g2, 0, none⟩) M gcp) ∧ (w2.drewN q3).cell? ⟨g2, i, none⟩ = some (.slice (some ⟨yg, 0, none⟩) 8 yc) ∧ (w2.drewN q3).cell? ⟨LS, k, none⟩ = some (.slice (some ⟨Ak, 0, none⟩) N N) := ⟨(grown_drewN w2 q3 none).cell hS2.1 (by simp), (grown_drewN w2 q3 none).cell hS2.2.1 (by simp), (grown_drewN w2 q3 none).cell hS2.2.2 (by simp)⟩
                    have Z1 := hide (grown_trans Z0.out.2 (grown_drewN w2 q3 none))
                    go_wp2_with fail
                    refine hK.out _ _ ?_ (fun hHeld => ?_)
                    · ((try dsimp only); first | assumption | go_keep)
                    clear hK K
                    try simp only [Act.put, List.setIfInBounds_toArray, List.set_cons_zero, List.set_cons_succ]
                    refine wpAnyH_take (i := 11) (oi := { dst := some 99, op := Go.Op.unOp Go.UnOp.not 4 (Go.Operand.tmp 98), type := 4, pos := "rows.go:89", after := #[{ on := 10, ground := Go.Ground.data }], guard := none }) (v := ?_) rfl (by kernel_rfl) (by kernel_rfl) (by kernel_rfl) (fun _ _ _ h => h) (Or.inl ⟨by rfl, ?_⟩) (by assumption) ?_
                    rotate_left
                    · (intro w hSw; (try dsimp only at hSw); (go_simp <;> with_reducible rfl))
                    try simp only [Act.put, List.setIfInBounds_toArray, List.set_cons_zero, List.set_cons_succ]
                    refine wpAnyH_take (i := 12) (oi := { dst := some 100, op := Go.Op.move (Go.Operand.tmp 99), type := 4, pos := "rows.go:89", after := #[{ on := 11, ground := Go.Ground.data }, { on := 10, ground := Go.Ground.chain }], guard := none }) (v := ?_) rfl (by kernel_rfl) (by kernel_rfl) (by kernel_rfl) (fun _ _ _ h => h) (Or.inl ⟨by rfl, ?_⟩) (by assumption) ?_
                    rotate_left
                    · (intro w hSw; (try dsimp only at hSw); (go_simp <;> with_reducible rfl))
                    try simp only [Act.put, List.setIfInBounds_toArray, List.set_cons_zero, List.set_cons_succ]
                    refine wpAnyH_take (i := 13) (oi := { dst := some 101, op := Go.Op.move (Go.Operand.tmp 10), type := 3, pos := "rows.go:89", after := #[{ on := 12, ground := Go.Ground.guard }], guard := some (12, false) }) (v := ?_) rfl (by kernel_rfl) (by kernel_rfl) (by kernel_rfl) (fun _ _ _ h => h) (Or.inl ⟨by rfl, ?_⟩) (by assumption) ?_
                    rotate_left
                    · (intro w hSw; (try dsimp only at hSw); (go_simp <;> with_reducible rfl))
                    try simp only [Act.put, List.setIfInBounds_toArray, List.set_cons_zero, List.set_cons_succ]
                    refine wpAnyH_take (i := 14) (oi := { dst := some 102, op := Go.Op.move (Go.Operand.tmp 0), type := 77, pos := "rows.go:89", after := #[{ on := 12, ground := Go.Ground.guard }], guard := some (12, false) }) (v := ?_) rfl (by kernel_rfl) (by kernel_rfl) (by kernel_rfl) (fun _ _ _ h => h) (Or.inl ⟨by rfl, ?_⟩) (by assumption) ?_
                    rotate_left
                    · (intro w hSw; (try dsimp only at hSw); (go_simp <;> with_reducible rfl))
                    try simp only [Act.put, List.setIfInBounds_toArray, List.set_cons_zero, List.set_cons_succ]
                    refine wpAnyH_take (i := 15) (oi := { dst := some 103, op := Go.Op.move (Go.Operand.tmp 9), type := 3, pos := "rows.go:89", after := #[{ on := 12, ground := Go.Ground.guard }], guard := some (12, false) }) (v := ?_) rfl (by kernel_rfl) (by kernel_rfl) (by kernel_rfl) (fun _ _ _ h => h) (Or.inl ⟨by rfl, ?_⟩) (by assumption) ?_
                    rotate_left
                    · (intro w hSw; (try dsimp only at hSw); (go_simp <;> with_reducible rfl))
                    try simp only [Act.put, List.setIfInBounds_toArray, List.set_cons_zero, List.set_cons_succ]
                    refine wpAnyH_take (i := 16) (oi := { dst := some 104, op := Go.Op.indexAddr 77 (Go.Operand.tmp 102) (Go.Operand.tmp 103), type := 0, pos := "rows.go:89", after := #[{ on := 14, ground := Go.Ground.data }, { on := 15, ground := Go.Ground.data }, { on := 12, ground := Go.Ground.guard }], guard := some (12, false) }) (v := ?_) rfl (by kernel_rfl) (by kernel_rfl) (by kernel_rfl) (fun _ _ _ h => h) (Or.inl ⟨by rfl, ?_⟩) (by assumption) ?_
                    rotate_left
                    · (intro w hSw; (try dsimp only at hSw); (go_simp <;> with_reducible rfl))
                    try simp only [Act.put, List.setIfInBounds_toArray, List.set_cons_zero, List.set_cons_succ]
                    refine wpAnyH_take (i := 17) (oi := { dst := some 105, op := Go.Op.load 41 (Go.Operand.tmp 104), type := 41, pos := "rows.go:89", after := #[{ on := 16, ground := Go.Ground.data }, { on := 12, ground := Go.Ground.guard }], guard := some (12, false) }) (v := ?_) rfl (by kernel_rfl) (by kernel_rfl) (by kernel_rfl) (fun _ _ _ h => h) (Or.inl ⟨by rfl, ?_⟩) (by assumption) ?_
                    rotate_left
                    · (intro w hSw; (try dsimp only at hSw); (go_simp <;> with_reducible rfl))
                    try simp only [Act.put, List.setIfInBounds_toArray, List.set_cons_zero, List.set_cons_succ]
                    refine wpAnyH_take (i := 18) (oi := { dst := some 106, op := Go.Op.call { callee := Go.Callee.builtin Go.Builtin.len, args := #[Go.Operand.tmp 105], argTypes := #[41] }, type := 3, pos := "rows.go:89", after := #[{ on := 17, ground := Go.Ground.data }, { on := 12, ground := Go.Ground.guard }], guard := some (12, false) }) (v := ?_) rfl (by kernel_rfl) (by kernel_rfl) (by kernel_rfl) (fun _ _ _ h => h) (Or.inl ⟨by rfl, ?_⟩) (by assumption) ?_
                    rotate_left
                    · (intro w hSw; (try dsimp only at hSw); (go_simp <;> with_reducible rfl))
                    try simp only [Act.put, List.setIfInBounds_toArray, List.set_cons_zero, List.set_cons_succ]
                    refine wpAnyH_take (i := 19) (oi := { dst := some 107, op := Go.Op.binOp Go.BinOp.lss 3 (Go.Operand.tmp 101) (Go.Operand.tmp 106) 3, type := 4, pos := "rows.go:89", after := #[{ on := 13, ground := Go.Ground.data }, { on := 18, ground := Go.Ground.data }, { on := 12, ground := Go.Ground.guard }], guard := some (12, false) }) (v := ?_) rfl (by kernel_rfl) (by kernel_rfl) (by kernel_rfl) (fun _ _ _ h => h) (Or.inl ⟨by rfl, ?_⟩) (by assumption) ?_
                    rotate_left
                    · (intro w hSw; (try dsimp only at hSw); (go_simp <;> with_reducible rfl))
                    try simp only [Act.put, List.setIfInBounds_toArray, List.set_cons_zero, List.set_cons_succ]
                    refine wpAnyH_take (i := 20) (oi := { dst := some 108, op := Go.Op.move (Go.Operand.tmp 107), type := 4, pos := "rows.go:89", after := #[{ on := 19, ground := Go.Ground.data }, { on := 12, ground := Go.Ground.chain }, { on := 12, ground := Go.Ground.guard }], guard := some (12, false) }) (v := ?_) rfl (by kernel_rfl) (by kernel_rfl) (by kernel_rfl) (fun _ _ _ h => h) (Or.inl ⟨by rfl, ?_⟩) (by assumption) ?_
                    rotate_left
                    · (intro w hSw; (try dsimp only at hSw); (go_simp <;> with_reducible rfl))
                    try simp only [Act.put, List.setIfInBounds_toArray, List.set_cons_zero, List.set_cons_succ]
                    refine wpAnyH_take (i := 21) (oi := { dst := some 109, op := Go.Op.move (Go.Operand.tmp 0), type := 77, pos := "rows.go:89", after := #[{ on := 20, ground := Go.Ground.guard }], guard := some (20, true) }) (v := undef) rfl (by kernel_rfl) (by kernel_rfl) (by kernel_rfl) (fun _ _ _ h => h) (Or.inr ⟨by rfl, rfl⟩) (by assumption) ?_
                    try simp only [Act.put, List.setIfInBounds_toArray, List.set_cons_zero, List.set_cons_succ]
                    refine wpAnyH_take (i := 22) (oi := { dst := some 110, op := Go.Op.move (Go.Operand.tmp 9), type := 3, pos := "rows.go:89", after := #[{ on := 20, ground := Go.Ground.guard }], guard := some (20, true) }) (v := undef) rfl (by kernel_rfl) (by kernel_rfl) (by kernel_rfl) (fun _ _ _ h => h) (Or.inr ⟨by rfl, rfl⟩) (by assumption) ?_
                    try simp only [Act.put, List.setIfInBounds_toArray, List.set_cons_zero, List.set_cons_succ]
                    refine wpAnyH_take (i := 23) (oi := { dst := some 111, op := Go.Op.indexAddr 77 (Go.Operand.tmp 109) (Go.Operand.tmp 110), type := 0, pos := "rows.go:89", after := #[{ on := 21, ground := Go.Ground.data }, { on := 22, ground := Go.Ground.data }, { on := 20, ground := Go.Ground.guard }], guard := some (20, true) }) (v := undef) rfl (by kernel_rfl) (by kernel_rfl) (by kernel_rfl) (fun _ _ _ h => h) (Or.inr ⟨by rfl, rfl⟩) (by assumption) ?_
                    try simp only [Act.put, List.setIfInBounds_toArray, List.set_cons_zero, List.set_cons_succ]
                    refine wpAnyH_take (i := 24) (oi := { dst := some 112, op := Go.Op.load 41 (Go.Operand.tmp 111), type := 41, pos := "rows.go:89", after := #[{ on := 23, ground := Go.Ground.data }, { on := 20, ground := Go.Ground.guard }], guard := some (20, true) }) (v := undef) rfl (by kernel_rfl) (by kernel_rfl) (by kernel_rfl) (fun _ _ _ h => h) (Or.inr ⟨by rfl, rfl⟩) (by assumption) ?_
                    try simp only [Act.put, List.setIfInBounds_toArray, List.set_cons_zero, List.set_cons_succ]
                    refine wpAnyH_take (i := 25) (oi := { dst := some 113, op := Go.Op.move (Go.Operand.tmp 10), type := 3, pos := "rows.go:89", after := #[{ on := 20, ground := Go.Ground.guard }], guard := some (20, true) }) (v := undef) rfl (by kernel_rfl) (by kernel_rfl) (by kernel_rfl) (fun _ _ _ h => h) (Or.inr ⟨by rfl, rfl⟩) (by assumption) ?_
                    try simp only [Act.put, List.setIfInBounds_toArray, List.set_cons_zero, List.set_cons_succ]
                    refine wpAnyH_take (i := 26) (oi := { dst := some 114, op := Go.Op.indexAddr 41 (Go.Operand.tmp 112) (Go.Operand.tmp 113), type := 0, pos := "rows.go:89", after := #[{ on := 24, ground := Go.Ground.data }, { on := 25, ground := Go.Ground.data }, { on := 20, ground := Go.Ground.guard }], guard := some (20, true) }) (v := undef) rfl (by kernel_rfl) (by kernel_rfl) (by kernel_rfl) (fun _ _ _ h => h) (Or.inr ⟨by rfl, rfl⟩) (by assumption) ?_
                    try simp only [Act.put, List.setIfInBounds_toArray, List.set_cons_zero, List.set_cons_succ]
                    refine wpAnyH_take (i := 27) (oi := { dst := some 115, op := Go.Op.load 32 (Go.Operand.tmp 114), type := 32, pos := "rows.go:89", after := #[{ on := 26, ground := Go.Ground.data }, { on := 20, ground := Go.Ground.guard }], guard := some (20, true) }) (v := undef) rfl (by kernel_rfl) (by kernel_rfl) (by kernel_rfl) (fun _ _ _ h => h) (Or.inr ⟨by rfl, rfl⟩) (by assumption) ?_
                    try simp only [Act.put, List.setIfInBounds_toArray, List.set_cons_zero, List.set_cons_succ]
                    refine wpAnyH_take (i := 28) (oi := { dst := some 116, op := Go.Op.move (Go.Operand.tmp 9), type := 3, pos := "rows.go:89", after := #[{ on := 20, ground := Go.Ground.guard }], guard := some (20, true) }) (v := undef) rfl (by kernel_rfl) (by kernel_rfl) (by kernel_rfl) (fun _ _ _ h => h) (Or.inr ⟨by rfl, rfl⟩) (by assumption) ?_
                    try simp only [Act.put, List.setIfInBounds_toArray, List.set_cons_zero, List.set_cons_succ]
                    refine wpAnyH_take (i := 29) (oi := { dst := some 117, op := Go.Op.move (Go.Operand.tmp 10), type := 3, pos := "rows.go:89", after := #[{ on := 20, ground := Go.Ground.guard }], guard := some (20, true) }) (v := undef) rfl (by kernel_rfl) (by kernel_rfl) (by kernel_rfl) (fun _ _ _ h => h) (Or.inr ⟨by rfl, rfl⟩) (by assumption) ?_
                    try simp only [Act.put, List.setIfInBounds_toArray, List.set_cons_zero, List.set_cons_succ]
                    refine wpAnyH_take (i := 30) (oi := { dst := some 118, op := Go.Op.call { callee := Go.Callee.value (Go.Operand.func 114), args := #[Go.Operand.tmp 116, Go.Operand.tmp 117], argTypes := #[3, 3] }, type := 32, pos := "rows.go:89", after := #[{ on := 28, ground := Go.Ground.data }, { on := 29, ground := Go.Ground.data }, { on := 20, ground := Go.Ground.chain }, { on := 20, ground := Go.Ground.guard }], guard := some (20, true) }) (v := undef) rfl (by kernel_rfl) (by kernel_rfl) (by kernel_rfl) (fun _ _ _ h => h) (Or.inr ⟨by rfl, rfl⟩) (by assumption) ?_
                    try simp only [Act.put, List.setIfInBounds_toArray, List.set_cons_zero, List.set_cons_succ]
                    refine wpAnyH_take (i := 31) (oi := { dst := some 119, op := Go.Op.call { callee := Go.Callee.value (Go.Operand.func 37), args := #[Go.Operand.tmp 115, Go.Operand.tmp 118], argTypes := #[32, 32] }, type := 4, pos := "rows.go:89", after := #[{ on := 27, ground := Go.Ground.data }, { on := 30, ground := Go.Ground.data }, { on := 30, ground := Go.Ground.chain }, { on := 20, ground := Go.Ground.guard }], guard := some (20, true) }) (v := undef) rfl (by kernel_rfl) (by kernel_rfl) (by kernel_rfl) (fun _ _ _ h => h) (Or.inr ⟨by rfl, rfl⟩) (by assumption) ?_
                    try simp only [Act.put, List.setIfInBounds_toArray, List.set_cons_zero, List.set_cons_succ]
                    refine wpAnyH_take (i := 32) (oi := { dst := some 120, op := Go.Op.unOp Go.UnOp.not 4 (Go.Operand.tmp 119), type := 4, pos := "rows.go:89", after := #[{ on := 31, ground := Go.Ground.data }, { on := 20, ground := Go.Ground.guard }], guard := some (20, true) }) (v := undef) rfl (by kernel_rfl) (by kernel_rfl) (by kernel_rfl) (fun _ _ _ h => h) (Or.inr ⟨by rfl, rfl⟩) (by assumption) ?_
                    try simp only [Act.put, List.setIfInBounds_toArray, List.set_cons_zero, List.set_cons_succ]
                    refine wpAnyH_take (i := 33) (oi := { dst := some 121, op := Go.Op.pick (Go.Operand.tmp 108) (Go.Operand.tmp 120) (Go.Operand.const (Go.Value.bool false)), type := 4, pos := "rows.go:89", after := #[{ on := 20, ground := Go.Ground.data }, { on := 32, ground := Go.Ground.data }, { on := 12, ground := Go.Ground.guard }], guard := some (12, false) }) (v := ?_) rfl (by kernel_rfl) (by kernel_rfl) (by kernel_rfl) (fun _ _ _ h => h) (Or.inl ⟨by rfl, ?_⟩) (by assumption) ?_
                    rotate_left
                    · (intro w hSw; (try dsimp only at hSw); (go_simp <;> with_reducible rfl))
                    try simp only [Act.put, List.setIfInBounds_toArray, List.set_cons_zero, List.set_cons_succ]
                    refine wpAnyH_take (i := 34) (oi := { dst := some 122, op := Go.Op.pick (Go.Operand.tmp 100) (Go.Operand.const (Go.Value.bool true)) (Go.Operand.tmp 121), type := 4, pos := "rows.go:89", after := #[{ on := 12, ground := Go.Ground.data }, { on := 33, ground := Go.Ground.data }], guard := none }) (v := ?_) rfl (by kernel_rfl) (by kernel_rfl) (by kernel_rfl) (fun _ _ _ h => h) (Or.inl ⟨by rfl, ?_⟩) (by assumption) ?_
                    rotate_left
                    · (intro w hSw; (try dsimp only at hSw); (go_simp <;> with_reducible rfl))
                    try simp only [Act.put, List.setIfInBounds_toArray, List.set_cons_zero, List.set_cons_succ]
                    refine wpAnyH_done (by kernel_rfl) ?_ _
                    clear hcG hgc c0 hS2 hS3
                    go_wp2
                    go_roundg (gk - 1)
                    case measure => omega
                    case rel => exact ⟨i + 1, by omega, by go_num, hide (HR.out.grow (Grow.none Z1.out) HS0.out)⟩
                · have hie : i = M := by omega
                  have hi2 : ¬ (i : Int) < (M : Int) := by omega
                  go_wp2
                  go_roundg (2 - (k + 1))
                  case measure => omega
                  case rel => exact ⟨k + 1, by omega, by go_num, by rw [hM] at HR; exact HR⟩
            · have hke : k = 2 := by omega
              subst hke
              clear hqk
              have HF := hide (HR.out.few (k2 := 0) (L2 := N) (by omega) (by omega))
              clear HR
              go_wp2
              go_loopg [11] 2 (fun q kv wr => ∃ (k : Nat) (T : Nat) (u : Nat → Value), q + k = 2 ∧ kv = .int .i64 (k : Int) ∧ Hid (F2 w wr LS A N S G T u k N))
              case atStart => exact ⟨0, _, _, by omega, rfl, HF⟩
              case round =>
                clear HF
                obtain ⟨k, T1, u, hqk, rfl, HR⟩ := hrel
                by_cases hk : 0 < gk
                · have hk2 : k < 2 := by omega
                  have hk2i : (k : Int) < 2 := by omega
                  have hmk := make_64
                  have gH := World.grownBy_alloc wr (.cells nil64.toArray 32) none
                  have HT : Hid (F2 w (wr.alloc (.cells nil64.toArray 32)) LS A N S G wr.heap.size u k N ∧ ∃ ys : List Value, (wr.alloc (.cells nil64.toArray 32)).heap[wr.heap.size]? = some (.cells ys.toArray 32 (0, 0)) ∧ ys.length = 64 ∧ ∀ y ∈ ys, y.oneCell' = true) :=
                    ⟨HR.out.top.grow (Grow.none gH) HS0.out, _, heap_alloc_new wr _, nil64_len, nil64_one⟩
                  clear gH HR
                  go_wp2
                  clear hmk
                  generalize wr.alloc (.cells nil64.toArray 32) = wm at *
                  obtain ⟨T, hT⟩ : ∃ T, T = wr.heap.size := ⟨_, rfl⟩
                  rw [← hT] at HT ⊢
                  clear hT
                  go_loopg [13] 64 (fun q iv wr2 => ∃ i : Nat, q + i = 64 ∧ iv = .int .i64 (i : Int) ∧ Hid (F2 w wr2 LS A N S G T u k N ∧ ∃ ys : List Value, wr2.heap[T]? = some (.cells ys.toArray 32 (0, 0)) ∧ ys.length = 64 ∧ ∀ y ∈ ys, y.oneCell' = true))
                  case atStart => exact ⟨0, by omega, rfl, HT⟩
                  case round =>
                    clear HT
                    obtain ⟨i, hqi, rfl, HR⟩ := hrel
                    by_cases hi : 0 < gk
                    · have hi2 : (i : Int) < 64 := by omega
                      have HM : Hid (∀ w', Calls Tryz.prog 114 #[.int .i64 ((k : Int) + 2), .int .i64 (i : Int)] w' fun e w'' => ∃ g c, e = .returned (.slice (some ⟨g, 0, none⟩) 8 c) ∧ Mk w'' (.slice (some ⟨g, 0, none⟩) 8 c) (k + 2) i ∧ w'.grownBy w'' none) := fun w' => by
                        have := markRow_any (k + 2) i w' (by omega) (by omega)
                        rw [show ((k + 2 : Nat) : Int) = (k : Int) + 2 by simp] at this
                        exact this
                      go_wp2_with fail
                      refine (HM.out _).mono ?_
                      rintro e w2 ⟨g, c, rfl, mk2, g2⟩
                      obtain ⟨ys, y1, y2, y3⟩ := HR.out.2
                      have hrow := (g2.block T (row_lt y1) (by simp)).trans y1
                      have hcl : w2.cell? ⟨T, i, none⟩ = some (ys[i]'(by omega)) := by rw [cell_row hrow]; exact List.getElem?_eq_getElem (by omega)
                      have hfz : w2.frozen? ⟨T, i, none⟩ = false := free_row hrow i
                      generalize (ys[i]'(by omega)) = old at *
                      have gs := grown_setCell w2 T i (.slice (some ⟨g, 0, none⟩) 8 c)
                      have H2 : Hid (F2 w (w2.setCell ⟨T, i, none⟩ (.slice (some ⟨g, 0, none⟩) 8 c)) LS A N S G T u k N ∧ ∃ ys : List Value, (w2.setCell ⟨T, i, none⟩ (.slice (some ⟨g, 0, none⟩) 8 c)).heap[T]? = some (.cells ys.toArray 32 (0, 0)) ∧ ys.length = 64 ∧ ∀ y ∈ ys, y.oneCell' = true) :=
                        ⟨(HR.out.1.grow (Grow.none g2) HS0.out).grow ⟨gs, (fun r e => by cases e; exact Nat.le_refl _), (fun r e _ => by cases e; exact ⟨_, _, _, hrow, by decide⟩)⟩ HS0.out, _, row_setCell hrow i _, by simpa using y2, fun y hy => by
                          rcases List.mem_or_eq_of_mem_set hy with h | h
                          · exact y3 y h
                          · rw [h]; rfl⟩
                      clear mk2 g2 y1 y2 y3 gs hrow
                      go_wp2
                      go_roundg (gk - 1)
                      case measure => omega
                      case rel => exact ⟨i + 1, by omega, by go_num, H2⟩
                    · have hie : i = 64 := by omega
                      subst hie
                      have hi2 : ¬ ((64 : Nat) : Int) < 64 := by omega
                      have c0 := HR.out.1.f1.fb.ls k hk2
                      obtain ⟨ys, y1, y2, y3⟩ := HR.out.2
                      obtain ⟨xs, x1, x2⟩ := HR.out.1.f1.fb.row k hk2
                      have HX := hide (And.intro x1 (And.intro x2 (And.intro y1 (And.intro y2 y3))))
                      clear x1 x2 y1 y2 y3
                      generalize hAk : A k = Ak at *
                      have HAK := hide hAk
                      clear hAk
                      go_wp2_with (at_builtin; refine wpList_app rfl (.tmp 148) (.tmp 149) rfl T (.slice (some ⟨Ak, 0, none⟩) N N) N xs rfl (Or.inl ⟨Ak, rfl, HX.out.1, HX.out.2.1⟩) ⟨T, 0, none⟩ 64 64 ys rfl HX.out.2.2.2.1 (by decide) (fun j y hy => by rw [Addr.add_lit, Nat.zero_add, cell_row HX.out.2.2.1]; exact hy) HX.out.2.2.2.2 (by omega) HR.out.1.tt ?_)
                      intro v' w4 row ho hg4
                      have hF4 := HR.out.1.grow hg4 HS0.out
                      have hG4 : GRow w4 T v' (N + 64) N k := ⟨_, ho, fun i2 y hi2 hy => by
                        rw [List.getElem?_append_left (by have := HX.out.2.1; omega)] at hy
                        obtain ⟨v, h3, h4⟩ := HR.out.1.f1.ms k i2 hk2 hi2 trivial
                        rw [HAK.out, cell_row HX.out.1, hy] at h3
                        cases h3
                        exact h4.grow hg4⟩
                      have hcG := hF4.gcell hk2
                      have hfG : w4.frozen? ⟨G, k, none⟩ = false := free_row hF4.gb k
                      obtain ⟨vo, vc, hvf, _⟩ := own_form ho
                      have H4 := hide (And.intro hF4 hG4)
                      subst hvf
                      clear ho hg4 hF4 hG4 c0
                      generalize u k = uk at *
                      go_wp2
                      go_roundg (2 - (k + 1))
                      case measure => omega
                      case rel => exact ⟨k + 1, _, _, by omega, by go_num, hide (H4.out.1.put hk2 HS0.out H4.out.2)⟩
                · have hke : k = 2 := by omega
                  subst hke
                  clear hqk
                  go_wp2
                  go_loopg [14] 2 (fun q kv wr => ∃ (k : Nat), q + k = 2 ∧ kv = .int .i64 (k : Int) ∧ Hid (F2 w wr LS A N S G T1 u 2 N))
                  case atStart => exact ⟨0, by omega, rfl, HR⟩
                  case round =>
                    clear HR
                    obtain ⟨k, hqk, rfl, HR⟩ := hrel
                    by_cases hk : 0 < gk
                    · have hk2 : k < 2 := by omega
                      have hk2i : (k : Int) < 2 := by omega
                      go_wp2
                      go_loopg [15] N (fun q iv wr2 => ∃ i : Nat, q + i = N ∧ iv = .int .i64 (i : Int) ∧ Hid (F2 w wr2 LS A N S G T1 u 2 N))
                      case atStart => exact ⟨0, by omega, rfl, HR⟩
                      case round =>
                        clear HR
                        obtain ⟨i, hqi, rfl, HR⟩ := hrel
                        have c0 := HR.out.f1.fb.ls k hk2
                        by_cases hi : 0 < gk
                        · have hi2 : (i : Int) < (N : Int) := by omega
                          have hcG := HR.out.gcell hk2
                          obtain ⟨g2, gcp, y, e2, hgc, hgm⟩ := (HR.out.gr k (by omega)).1.cell (i := i) (by omega) (by omega)
                          rw [e2] at hcG
                          obtain ⟨M, hM⟩ : ∃ M, M = N + 64 := ⟨_, rfl⟩
                          rw [← hM] at hcG
                          have hiM : (i : Int) < (M : Int) := by omega
                          clear hM
                          have HGM := hide hgm
                          obtain ⟨yg, yc, hyf⟩ := hgm.form
                          subst hyf
                          clear hgm e2
                          have HM := hide (fun w' => markRow_any k i w' (by omega) (by omega))
                          obtain ⟨z, hz1, hz2⟩ := HR.out.f1.ms k i hk2 (by omega) trivial
                          have HZ := hide hz2
                          obtain ⟨zg, zc, hzf⟩ := hz2.form
                          subst hzf
                          clear hz2
                          generalize A k = Ak at *
                          go_wp2_with fail
                          go_region_held3 (fun w' => w'.cell? ⟨G, k, none⟩ = some (.slice (some ⟨g2, 0, none⟩) M gcp) ∧ w'.cell? ⟨g2, i, none⟩ = some (.slice (some ⟨yg, 0, none⟩) 8 yc) ∧ w'.cell? ⟨LS, k, none⟩ = some (.slice (some ⟨Ak, 0, none⟩) N N) ∧ w'.cell? ⟨Ak, i, none⟩ = some (.slice (some ⟨zg, 0, none⟩) 8 zc)) (first | exact ⟨hcG, hgc, c0, hz1⟩ | assumption | go_keep) (first
                            | (have hx := Z1; clear hx; go_at_call 114; refine (HM.out _).mono ?_; rintro e w4 ⟨g4, c4, rfl, mk4, gg4⟩; have hS4 : w4.cell? ⟨G, k, none⟩ = some (.slice (some ⟨g2, 0, none⟩) M gcp) ∧ w4.cell? ⟨g2, i, none⟩ = some (.slice (some ⟨yg, 0, none⟩) 8 yc) ∧ w4.cell? ⟨LS, k, none⟩ = some (.slice (some ⟨Ak, 0, none⟩) N N) ∧ w4.cell? ⟨Ak, i, none⟩ = some (.slice (some ⟨zg, 0, none⟩) 8 zc) := ⟨gg4.cell hS3.1 (by simp), gg4.cell hS3.2.1 (by simp), gg4.cell hS3.2.2.1 (by simp), gg4.cell hS3.2.2.2 (by simp)⟩; have Z2 := hide (And.intro mk4 (grown_trans Z1.out.2 gg4)); clear mk4 gg4)
                            | (have hx := Z0; clear hx; go_at_call 37; refine ((HZ.out.kept Z0.out.2 (fun r e => by cases e)).same Z0.out.1).mono ?_; rintro e w3 ⟨rfl, q3, rfl⟩; have hS3 : (w2.drewN q3).cell? ⟨G, k, none⟩ = some (.slice (some ⟨g2, 0, none⟩) M gcp) ∧ (w2.drewN q3).cell? ⟨g2, i, none⟩ = some (.slice (some ⟨yg, 0, none⟩) 8 yc) ∧ (w2.drewN q3).cell? ⟨LS, k, none⟩ = some (.slice (some ⟨Ak, 0, none⟩) N N) ∧ (w2.drewN q3).cell? ⟨Ak, i, none⟩ = some (.slice (some ⟨zg, 0, none⟩) 8 zc) := ⟨(grown_drewN w2 q3 none).cell hS2.1 (by simp), (grown_drewN w2 q3 none).cell hS2.2.1 (by simp), (grown_drewN w2 q3 none).cell hS2.2.2.1 (by simp), (grown_drewN w2 q3 none).cell hS2.2.2.2 (by simp)⟩; have Z1 := hide (And.intro True.intro (grown_trans Z0.out.2 (grown_drewN w2 q3 none))); clear Z0)
                            | (have hx := Z2; clear hx; go_at_call 37; refine ((HGM.out.kept Z2.out.2 (fun r e => by cases e)).same Z2.out.1).mono ?_; rintro e w5 ⟨rfl, q5, rfl⟩; have hS5 : (w4.drewN q5).cell? ⟨G, k, none⟩ = some (.slice (some ⟨g2, 0, none⟩) M gcp) ∧ (w4.drewN q5).cell? ⟨g2, i, none⟩ = some (.slice (some ⟨yg, 0, none⟩) 8 yc) ∧ (w4.drewN q5).cell? ⟨LS, k, none⟩ = some (.slice (some ⟨Ak, 0, none⟩) N N) ∧ (w4.drewN q5).cell? ⟨Ak, i, none⟩ = some (.slice (some ⟨zg, 0, none⟩) 8 zc) := ⟨(grown_drewN w4 q5 none).cell hS4.1 (by simp), (grown_drewN w4 q5 none).cell hS4.2.1 (by simp), (grown_drewN w4 q5 none).cell hS4.2.2.1 (by simp), (grown_drewN w4 q5 none).cell hS4.2.2.2 (by simp)⟩; have Z3 := hide (grown_trans Z2.out.2 (grown_drewN w4 q5 none)))
                            | (go_at_call 114; refine (HM.out _).mono ?_; rintro e w2 ⟨g1, c1, rfl, mk1, gg1⟩; have gg := grown_trans (grown_drew wr none) gg1; have hS2 : w2.cell? ⟨G, k, none⟩ = some (.slice (some ⟨g2, 0, none⟩) M gcp) ∧ w2.cell? ⟨g2, i, none⟩ = some (.slice (some ⟨yg, 0, none⟩) 8 yc) ∧ w2.cell? ⟨LS, k, none⟩ = some (.slice (some ⟨Ak, 0, none⟩) N N) ∧ w2.cell? ⟨Ak, i, none⟩ = some (.slice (some ⟨zg, 0, none⟩) 8 zc) := ⟨gg.cell hcG (by simp), gg.cell hgc (by simp), gg.cell c0 (by simp), gg.cell hz1 (by simp)⟩; have Z0 := hide (And.intro mk1 gg); clear mk1 gg1 gg))
                          clear hcG hgc c0 hz1 hS2 hS3 hS4 hS5
                          go_wp2
                          go_roundg (gk - 1)
                          case measure => omega
                          case rel => exact ⟨i + 1, by omega, by go_num, hide (HR.out.grow (Grow.none Z3.out) HS0.out)⟩
                        · have hie : i = N := by omega
                          have hi2 : ¬ (i : Int) < (N : Int) := by omega
                          go_wp2
                          go_roundg (2 - (k + 1))
                          case measure => omega
                          case rel => exact ⟨k + 1, by omega, by go_num, HR⟩
                    · have hke : k = 2 := by omega
                      subst hke
                      go_wp2
                      go_ret
                      exact ⟨rfl, HR.out.f1.kp⟩
end Go.Proofs.YtaopcidkgcekdaaGreat
