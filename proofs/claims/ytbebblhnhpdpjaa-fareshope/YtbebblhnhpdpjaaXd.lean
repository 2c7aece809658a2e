/- Fares: near, hope. -/
import Derived.Test.YtbebblhnhpdpjaaXc
import Derived.Test.YtbebblhnhpdpjaaWa
import Derived.OrdersHeld
namespace Go.Proofs.Ytbebblhnhpdpjaa
open Go.RowKit
attribute [local go_sem ↓] Go.wp_at_zero Go.wp_at_succ
attribute [local go_sem] run_store_float
attribute [local go_sem] Oper.semAt_some

theorem near_any (b : Nat) (hb : b < 2047 * 2 ^ 52) (hv : val b ≤ pw 1087) (w : World) : Calls Try.prog 28 #[.float .f64 b, .float .f64 b] w fun e w' => e = .returned (.bool true) ∧ w' = w := by
  obtain ⟨h1, u, r, h2, h3, h4⟩ := near_words hb hv
  have m1 : ∀ w, (binOp .sub 33 (.float .f64 b) (.float .f64 b)).run Try.prog w = .ok (.float .f64 0) w := run_sub h1
  have m2 := run_mul h2
  have m3 := run_add h3
  have hlt : (FloatKind.f64.format.order 0 0 == some .lt) = false := by decide
  have hle : (FloatKind.f64.format.order 0 r == some .lt || FloatKind.f64.format.order 0 r == some .eq) = true := by
    rw [order_low (by omega) h4]
    simp only [some_beq, lt_iff, eq_iff, Bool.or_eq_true, decide_eq_true_eq]
    omega
  have HL := hide hle
  clear h1 h2 h3 h4 hb hv hle
  go_enter Try.func28, Try.ntmps28
  go_wp2
  go_ret
  exact ⟨by rw [HL.out]; rfl, rfl⟩

theorem bu_bd {q n : Nat} {ws : List Nat} (hq : val q ≤ pw 1114) (hn : 48 ≤ n) (hw : Bd n ws) (x : Nat) : ∀ u, u ≤ 257 → val (bu q ws x u) ≤ pw (1074 + (n + 1)) := by
  intro u
  induction u with
  | zero => intro _; show val 0 ≤ _; rw [val_zero]; exact Nat.zero_le _
  | succ u ih =>
    intro hu
    exact val_max (ih (by omega)) (cd_bd (by omega) hq hn (hw _))
theorem gt_low {a b : Nat} (ha : a < 2047 * 2 ^ 52) (hb : b < 2047 * 2 ^ 52) : (FloatKind.f64.format.order a b == some .gt) = decide (b < a) := by
  rw [order_low ha hb, some_beq]
  congr 1
  exact propext gt_iff

set_option maxRecDepth 100000 in
set_option maxHeartbeats 4000000 in
theorem hope_any (ao : Option Addr) (cap n s : Nat) (l : List Fa) (hn : n = l.length) (h16 : n ≤ 16) (hs : s ≤ 1024) (hgd : ∀ (j : Nat) (c : Fa), l[j]? = some c → Gd c) :
    ∀ (j x : Nat) (w : World), j ≤ n → x ≤ s → FasAt w ao l → Calls Try.prog 29 #[.slice ao n cap, .int .i64 (j : Int), .int .i64 (x : Int)] w fun e w' => e = .returned (.float .f64 ((vs s (l.take j)).getD x 0)) ∧ w.grownBy w' none := by
  intro j
  induction j with
  | zero =>
    intro x w _ _ _
    have e0 : (vs s (l.take 0)).getD x 0 = 0 := by rw [vs_nil, zeros_get]
    rw [e0]
    go_enter Try.func29, Try.ntmps29
    go_wp2
    go_ret
    exact ⟨rfl, grown_refl _ _⟩
  | succ j ih =>
    intro x w hj hx hb
    obtain ⟨c, hc⟩ : ∃ c, l[j]? = some c := ⟨_, List.getElem?_eq_getElem (by omega)⟩
    obtain ⟨p, cs⟩ := c
    have gd := hgd j _ hc
    have e0 : (vs s (l.take (j + 1))).getD x 0 = su (ru p) (vs s (l.take j)) cs x cs.length := by
      rw [take_snoc hc, vs_snoc, nv_get _ _ _ _ (by rw [vs_length]; omega)]
    rw [e0]
    have HBd := hide (bd_vs s hgd j (by omega))
    have HIH : Hid (∀ u, u ≤ x → ∀ W, w.grownBy W none → Calls Try.prog 29 #[.slice ao n cap, .int .i64 (j : Int), .int .i64 ((x - u : Nat) : Int)] W fun e w' => e = .returned (.float .f64 ((vs s (l.take j)).getD (x - u) 0)) ∧ W.grownBy w' none) := hide (fun u hu W hW => ih (x - u) W (by omega) (by omega) (hb.grown hW))
    obtain ⟨b, off, bo, bc, rfl, hfa⟩ := hb j (p, cs) hc
    obtain ⟨⟨hc1, hc2⟩, hlik⟩ := chOk_parts gd.ch
    have hcl := ch_le gd.ch
    have hpr := gd.pr
    dsimp only at hc1 hc2 hlik hcl hpr
    obtain ⟨a, rfl, -⟩ := hfa.sin.at_ 0 (cs.getD 0 0) (by dsimp only; rw [List.getD_eq_getElem?_getD, List.getElem?_eq_getElem (by omega)]; rfl)
    have HCell : Hid (∀ k, k < cs.length → ∀ W, w.grownBy W none → W.cell? (a.add k) = some (.float .f64 (cs.getD k 0))) := hide (by
      intro k hk W hW
      obtain ⟨a', ha, hcc⟩ := (hfa.sin.grown hW).at_ k (cs.getD k 0) (by dsimp only; rw [List.getD_eq_getElem?_getD, List.getElem?_eq_getElem hk]; rfl)
      cases ha
      exact hcc)
    have k0 := hfa.c0
    have k1 := hfa.c1
    dsimp only at k0 k1
    generalize hws : vs s (l.take j) = ws at *
    obtain ⟨m, hm⟩ : ∃ m, m = cs.length := ⟨_, rfl⟩
    rw [← hm] at k1 hc1 hc2 hlik HCell ⊢
    obtain ⟨x0, x1, gx⟩ := box_fa w (.float .f64 p) (.slice (some a) m bc)
    have HX := hide (And.intro x0 (And.intro x1 gx))
    have hJ1 : (j : Int) + 1 - 1 = (j : Int) := by omega
    have hJ2 : ((j : Int) + 1 == 0) = false := by simp; omega
    have hjn : (j : Int) < (n : Int) := by omega
    have hwj : IntKind.i64.wrap (j : Int) = (j : Int) := by rw [IntKind.wrap_i64]; omega
    rw [show ((j + 1 : Nat) : Int) = (j : Int) + 1 by omega]
    clear ih hfa hb x0 x1 gx e0 hgd hc hm hn
    go_enter Try.func29, Try.ntmps29
    go_wp2
    generalize w.alloc (.cells #[.float .f64 p, .slice (some a) m bc] 48) = w1 at *
    generalize w.heap.size = bx at *
    clear k0 k1
    go_loopg [8, 9] m (fun q sm i wr => ∃ k : Nat, q + k = m ∧ i = .int .i64 (k : Int) ∧ sm = .float .f64 (su (ru p) ws cs x k) ∧ Hid (w1.grownBy wr none))
    case atStart => exact ⟨0, by omega, rfl, rfl, hide (grown_refl _ _)⟩
    case round =>
      obtain ⟨k, hqk, rfl, rfl, HG⟩ := hrel
      obtain ⟨x0, x1, gx⟩ := HX.out
      have b0 := HG.out.cell x0 (by simp)
      have b1 := HG.out.cell x1 (by simp)
      clear x0 x1 gx
      by_cases hgo : 0 < gk
      · have hkm : (k : Int) < (m : Int) := by omega
        generalize hog : gk = og at *
        go_wp2
        clear b0 b1
        go_loopg [10, 11] (min k x + 1) (fun q bs i wr => ∃ u : Nat, q + u = min k x + 1 ∧ i = .int .i64 (u : Int) ∧ bs = .float .f64 (bu (ru p) ws x u) ∧ Hid (w1.grownBy wr none))
        case atStart => exact ⟨0, by omega, rfl, rfl, HG⟩
        case round =>
          clear HG
          obtain ⟨u, hqu, rfl, rfl, HG⟩ := hrel
          obtain ⟨x0, x1, gx⟩ := HX.out
          by_cases hgu : 0 < gk
          · have hu1 : (u : Int) ≤ (k : Int) := by omega
            have hu2 : (u : Int) ≤ (x : Int) := by omega
            obtain ⟨r, hr1, hr2⟩ := cd_run (k := u) (by omega) hpr (show 48 ≤ 48 + 9 * j by omega) (by omega) (HBd.out (x - u))
            have fd := bd_fin (cd_bd (u := u) (by omega) hpr.le (show 48 ≤ 48 + 9 * j by omega) (HBd.out (x - u))) (by omega)
            have fb := bd_fin (bu_bd hpr.le (show 48 ≤ 48 + 9 * j by omega) HBd.out x u (by omega)) (by omega)
            have hgt := gt_low fd fb
            have HBU : Hid (bu (ru p) ws x (u + 1) = max (bu (ru p) ws x u) (cd (ru p) u (ws.getD (x - u) 0))) := hide rfl
            have hr1' : ∀ w, (binOp .mul 33 (.float .f64 (floatOfInt .f64 (u : Int))) (.float .f64 p)).run Try.prog w = .ok (.float .f64 r) w := run_mul hr1
            have hr2' := run_add hr2
            have hsub : (x : Int) - (u : Int) = ((x - u : Nat) : Int) := by omega
            have hwu : IntKind.i64.wrap ((x - u : Nat) : Int) = ((x - u : Nat) : Int) := by rw [IntKind.wrap_i64]; omega
            have HQ := hide (HIH.out u (by omega) _ (grown_trans gx (grown_trans HG.out (grown_drew _ none))))
            have hK0 : World.cell? (World.drew _) ⟨bx, 0, none⟩ = some (.float .f64 p) := (grown_trans HG.out (grown_drew _ none)).cell x0 (by simp)
            have HK : Hid (∀ W, w1.grownBy W none → W.cell? ⟨bx, 0, none⟩ = some (.float .f64 p)) := hide (fun W hW => hW.cell x0 (by simp))
            clear hr1 hr2 fd fb x0 x1 gx
            generalize hbu2 : bu (ru p) ws x (u + 1) = b2 at *
            generalize bu (ru p) ws x u = b0 at *
            generalize cd (ru p) u (ws.getD (x - u) 0) = d0 at *
            generalize ws.getD (x - u) 0 = y0 at *
            go_wp2
            refine wp_region_noPanic ?_
            refine wp_region_held_drew (S := (fun W => W.cell? ⟨bx, 0, none⟩ = some (.float .f64 p))) (by kernel_rfl) ?_ (fun hHeld => ?_)
            · (exact hK0)
            refine wpAnyH_take (i := 0) (oi := { dst := some 37, op := Op.move (Operand.tmp 11), type := 3, pos := "outright.go:30", after := #[], guard := none }) (v := ?_) rfl (by kernel_rfl) (by kernel_rfl) (by kernel_rfl) (fun _ _ _ h => h) (Or.inl ⟨by rfl, ?_⟩) (by assumption) ?_
            rotate_left
            · (intro w hSw; (try dsimp only at hSw); (go_simp <;> with_reducible rfl))
            try simp only [Act.put, List.setIfInBounds_toArray, List.set_cons_zero, List.set_cons_succ]
            refine wpAnyH_take (i := 1) (oi := { dst := some 38, op := Op.convert 3 33 (Operand.tmp 37), type := 33, pos := "outright.go:30", after := #[{ on := 0, ground := Ground.data }], guard := none }) (v := ?_) rfl (by kernel_rfl) (by kernel_rfl) (by kernel_rfl) (fun _ _ _ h => h) (Or.inl ⟨by rfl, ?_⟩) (by assumption) ?_
            rotate_left
            · (intro w hSw; (try dsimp only at hSw); (go_simp <;> with_reducible rfl))
            try simp only [Act.put, List.setIfInBounds_toArray, List.set_cons_zero, List.set_cons_succ]
            refine wpAnyH_take (i := 2) (oi := { dst := some 39, op := Op.fieldAddr 48 (Operand.tmp 7) 0, type := 0, pos := "outright.go:30", after := #[], guard := none }) (v := ?_) rfl (by kernel_rfl) (by kernel_rfl) (by kernel_rfl) (fun _ _ _ h => h) (Or.inl ⟨by rfl, ?_⟩) (by assumption) ?_
            rotate_left
            · (intro w hSw; (try dsimp only at hSw); (go_simp <;> with_reducible rfl))
            try simp only [Act.put, List.setIfInBounds_toArray, List.set_cons_zero, List.set_cons_succ]
            refine wpAnyH_take (i := 3) (oi := { dst := some 40, op := Op.load 33 (Operand.tmp 39), type := 33, pos := "outright.go:30", after := #[{ on := 2, ground := Ground.data }], guard := none }) (v := ?_) rfl (by kernel_rfl) (by kernel_rfl) (by kernel_rfl) (fun _ _ _ h => h) (Or.inl ⟨by rfl, ?_⟩) (by assumption) ?_
            rotate_left
            · (intro w hSw; (try dsimp only at hSw); (go_simp <;> with_reducible rfl))
            try simp only [Act.put, List.setIfInBounds_toArray, List.set_cons_zero, List.set_cons_succ]
            refine wpAnyH_take (i := 4) (oi := { dst := some 41, op := Op.binOp BinOp.mul 33 (Operand.tmp 38) (Operand.tmp 40) 33, type := 33, pos := "outright.go:30", after := #[{ on := 1, ground := Ground.data }, { on := 3, ground := Ground.data }], guard := none }) (v := ?_) rfl (by kernel_rfl) (by kernel_rfl) (by kernel_rfl) (fun _ _ _ h => h) (Or.inl ⟨by rfl, ?_⟩) (by assumption) ?_
            rotate_left
            · (intro w hSw; (try dsimp only at hSw); (go_simp <;> with_reducible rfl))
            try simp only [Act.put, List.setIfInBounds_toArray, List.set_cons_zero, List.set_cons_succ]
            refine wpAnyH_take (i := 5) (oi := { dst := some 42, op := Op.move (Operand.tmp 0), type := 22, pos := "outright.go:30", after := #[], guard := none }) (v := ?_) rfl (by kernel_rfl) (by kernel_rfl) (by kernel_rfl) (fun _ _ _ h => h) (Or.inl ⟨by rfl, ?_⟩) (by assumption) ?_
            rotate_left
            · (intro w hSw; (try dsimp only at hSw); (go_simp <;> with_reducible rfl))
            try simp only [Act.put, List.setIfInBounds_toArray, List.set_cons_zero, List.set_cons_succ]
            refine wpAnyH_take (i := 6) (oi := { dst := some 43, op := Op.move (Operand.tmp 1), type := 3, pos := "outright.go:30", after := #[], guard := none }) (v := ?_) rfl (by kernel_rfl) (by kernel_rfl) (by kernel_rfl) (fun _ _ _ h => h) (Or.inl ⟨by rfl, ?_⟩) (by assumption) ?_
            rotate_left
            · (intro w hSw; (try dsimp only at hSw); (go_simp <;> with_reducible rfl))
            try simp only [Act.put, List.setIfInBounds_toArray, List.set_cons_zero, List.set_cons_succ]
            refine wpAnyH_take (i := 7) (oi := { dst := some 44, op := Op.binOp BinOp.sub 3 (Operand.tmp 43) (Operand.const (Value.int IntKind.i64 1)) 3, type := 3, pos := "outright.go:30", after := #[{ on := 6, ground := Ground.data }], guard := none }) (v := ?_) rfl (by kernel_rfl) (by kernel_rfl) (by kernel_rfl) (fun _ _ _ h => h) (Or.inl ⟨by rfl, ?_⟩) (by assumption) ?_
            rotate_left
            · (intro w hSw; (try dsimp only at hSw); (go_simp <;> with_reducible rfl))
            try simp only [Act.put, List.setIfInBounds_toArray, List.set_cons_zero, List.set_cons_succ]
            refine wpAnyH_take (i := 8) (oi := { dst := some 45, op := Op.move (Operand.tmp 2), type := 3, pos := "outright.go:30", after := #[], guard := none }) (v := ?_) rfl (by kernel_rfl) (by kernel_rfl) (by kernel_rfl) (fun _ _ _ h => h) (Or.inl ⟨by rfl, ?_⟩) (by assumption) ?_
            rotate_left
            · (intro w hSw; (try dsimp only at hSw); (go_simp <;> with_reducible rfl))
            try simp only [Act.put, List.setIfInBounds_toArray, List.set_cons_zero, List.set_cons_succ]
            refine wpAnyH_take (i := 9) (oi := { dst := some 46, op := Op.move (Operand.tmp 11), type := 3, pos := "outright.go:30", after := #[], guard := none }) (v := ?_) rfl (by kernel_rfl) (by kernel_rfl) (by kernel_rfl) (fun _ _ _ h => h) (Or.inl ⟨by rfl, ?_⟩) (by assumption) ?_
            rotate_left
            · (intro w hSw; (try dsimp only at hSw); (go_simp <;> with_reducible rfl))
            try simp only [Act.put, List.setIfInBounds_toArray, List.set_cons_zero, List.set_cons_succ]
            refine wpAnyH_take (i := 10) (oi := { dst := some 47, op := Op.binOp BinOp.sub 3 (Operand.tmp 45) (Operand.tmp 46) 3, type := 3, pos := "outright.go:30", after := #[{ on := 8, ground := Ground.data }, { on := 9, ground := Ground.data }], guard := none }) (v := ?_) rfl (by kernel_rfl) (by kernel_rfl) (by kernel_rfl) (fun _ _ _ h => h) (Or.inl ⟨by rfl, ?_⟩) (by assumption) ?_
            rotate_left
            · (intro w hSw; (try dsimp only at hSw); (go_simp <;> with_reducible rfl))
            try simp only [Act.put, List.setIfInBounds_toArray, List.set_cons_zero, List.set_cons_succ]
            refine wpAnyH_ready (rs := [11]) (by kernel_rfl) (by simp) ?_
            refine AllReadyH.cons (o := { dst := some 48, op := Op.call { callee := Callee.value (Operand.func 29), args := #[Operand.tmp 42, Operand.tmp 44, Operand.tmp 47], argTypes := #[22, 3, 3] }, type := 33, pos := "outright.go:30", after := #[{ on := 5, ground := Ground.data }, { on := 7, ground := Ground.data }, { on := 10, ground := Ground.data }], guard := none }) rfl (fun K hK => ?_) ?_
            rotate_left
            · exact AllReadyH.nil
            go_simp
            refine HQ.out.mono ?_
            rintro e w3 ⟨rfl, hg3⟩
            have HG3 := hide (grown_trans (grown_drew wr none) hg3)
            have hK3 := HK.out _ (grown_trans HG.out HG3.out)
            clear hg3
            go_wp2_with fail
            refine hK.out _ _ ?_ (fun hHeld => ?_)
            · ((try dsimp only); first | with_reducible assumption | exact hK3 | exact hK0)
            clear hK K
            try simp only [Act.put, List.setIfInBounds_toArray, List.set_cons_zero, List.set_cons_succ]
            refine wpAnyH_take (i := 12) (oi := { dst := some 49, op := Op.binOp BinOp.add 33 (Operand.tmp 41) (Operand.tmp 48) 33, type := 33, pos := "outright.go:30", after := #[{ on := 4, ground := Ground.data }, { on := 11, ground := Ground.data }], guard := none }) (v := ?_) rfl (by kernel_rfl) (by kernel_rfl) (by kernel_rfl) (fun _ _ _ h => h) (Or.inl ⟨by rfl, ?_⟩) (by assumption) ?_
            rotate_left
            · (intro w hSw; (try dsimp only at hSw); (go_simp <;> with_reducible rfl))
            try simp only [Act.put, List.setIfInBounds_toArray, List.set_cons_zero, List.set_cons_succ]
            refine wpAnyH_take (i := 13) (oi := { dst := some 12, op := Op.assign (Operand.tmp 49), type := 33, pos := "outright.go:30", after := #[{ on := 12, ground := Ground.data }, { on := 11, ground := Ground.chain }, { on := 0, ground := Ground.phase }, { on := 1, ground := Ground.phase }, { on := 2, ground := Ground.phase }, { on := 3, ground := Ground.phase }, { on := 4, ground := Ground.phase }, { on := 5, ground := Ground.phase }, { on := 6, ground := Ground.phase }, { on := 7, ground := Ground.phase }, { on := 8, ground := Ground.phase }, { on := 9, ground := Ground.phase }, { on := 10, ground := Ground.phase }, { on := 11, ground := Ground.phase }, { on := 12, ground := Ground.phase }], guard := none }) (v := ?_) rfl (by kernel_rfl) (by kernel_rfl) (by kernel_rfl) (fun _ _ _ h => h) (Or.inl ⟨by rfl, ?_⟩) (by assumption) ?_
            rotate_left
            · (intro w hSw; (try dsimp only at hSw); (go_simp <;> with_reducible rfl))
            try simp only [Act.put, List.setIfInBounds_toArray, List.set_cons_zero, List.set_cons_succ]
            refine wpAnyH_done (by kernel_rfl) ?_ _
            refine NoPanic.normal ?_
            by_cases hbd : b0 < d0
            · have hgt2 : (FloatKind.f64.format.order d0 b0 == some .gt) = true := by rw [hgt]; simpa using hbd
              have hb2 : b2 = d0 := by rw [HBU.out]; omega
              have HB2 := hide hb2
              clear hgt hbd hb2
              go_wp2
              go_roundg (gk - 1)
              case measure => omega
              case rel => exact ⟨u + 1, by omega, by go_num, by rw [hbu2, HB2.out], hide (grown_trans HG.out HG3.out)⟩
            · have hgt2 : (FloatKind.f64.format.order d0 b0 == some .gt) = false := by rw [hgt]; simpa using hbd
              have hb2 : b2 = b0 := by rw [HBU.out]; omega
              have HB2 := hide hb2
              clear hgt hbd hb2
              go_wp2
              go_roundg (gk - 1)
              case measure => omega
              case rel => exact ⟨u + 1, by omega, by go_num, by rw [hbu2, HB2.out], hide (grown_trans HG.out HG3.out)⟩
          · obtain rfl : u = min k x + 1 := by omega
            have hb0 := HG.out.cell x0 (by simp)
            have hb1 := HG.out.cell x1 (by simp)
            have hcell := HCell.out k (by omega) _ (grown_trans gx HG.out)
            have hbt := bt_bd hpr.le (show 48 ≤ 48 + 9 * j by omega) HBd.out x k (by omega)
            obtain ⟨r, hr1, hr2⟩ := tn_run (s := su (ru p) ws cs x k) (n := 48 + 9 * j + 1) (hlik k (by omega)) hbt (by omega) (bd_fin (su_bd2 hpr.le (show 48 ≤ 48 + 9 * j by omega) HBd.out hcl x k (by omega)) (by omega)) (bd_fin (n := 48 + 9 * j + 9) (su_bd2 hpr.le (show 48 ≤ 48 + 9 * j by omega) HBd.out hcl x (k + 1) (by omega)) (by omega))
            have hsu : ad (su (ru p) ws cs x k) (tn (cs.getD k 0) (bt (ru p) ws x k)) = su (ru p) ws cs x (k + 1) := rfl
            rw [hsu] at hr2
            have hm1 := run_mul hr1
            have hm2 := run_add hr2
            rw [← bt_bu]
            have HN := hide (And.intro hqk (And.intro hog hgo))
            clear hr1 hr2 hsu hbt x0 x1 gx
            generalize cs.getD k 0 = c0 at *
            generalize bt (ru p) ws x k = bj at *
            generalize su (ru p) ws cs x k = sj at *
            generalize hsj1 : su (ru p) ws cs x (k + 1) = sj1 at *
            by_cases hku : k ≤ x
            · have hmin : min k x = k := by omega
              rw [hmin] at *
              have hu1 : ¬ ((k + 1 : Nat) : Int) ≤ (k : Int) := by omega
              go_wp2
              go_roundg (og - 1)
              case measure => omega
              case rel => exact ⟨k + 1, by omega, by go_num, by rw [hsj1], HG⟩
            · have hmin : min k x = x := by omega
              rw [hmin] at *
              have hu1 : ((x + 1 : Nat) : Int) ≤ (k : Int) := by omega
              have hu2 : ¬ ((x + 1 : Nat) : Int) ≤ (x : Int) := by omega
              go_wp2
              go_roundg (og - 1)
              case measure => omega
              case rel => exact ⟨k + 1, by omega, by go_num, by rw [hsj1], HG⟩
      · obtain rfl : k = m := by omega
        have hkm : ¬ (k : Int) < (k : Int) := by omega
        have HE := hide (grown_trans HX.out.2.2 HG.out)
        go_wp2
        go_ret
        exact ⟨rfl, HE.out⟩
end Go.Proofs.Ytbebblhnhpdpjaa
