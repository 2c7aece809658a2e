/- ReplayHistories, walked. -/
import Derived.Test.YtinkkocleognbaaGreatDoorP2
import Derived.Sort.LoopGhostIn
namespace Go.Proofs.YtinkkocleognbaaGreatDoor
open Go.RowKit Go.Shelf
attribute [local go_sem ↓] Go.wp_at_zero Go.wp_at_succ
attribute [local go_sem] Oper.semAt_some
theorem hb_a {w2 W wx : World} {n : Nat} {so : Option Addr} {cp : Nat} {rs : List Rc} (G : w2.grownBy W none) (gx : W.grownBy wx none) (hR : Rw wx W.heap.size so cp rs) : (wx.alloc (.cells #[.slice so n cp] 48)).heap[wx.heap.size]? = some (.cells [Value.slice so n cp].toArray 48 (0, 0)) ∧ w2.grownBy (wx.alloc (.cells #[.slice so n cp] 48)) none ∧ Rw (wx.alloc (.cells #[.slice so n cp] 48)) w2.heap.size so cp rs :=
  ⟨heap_alloc_new wx _, gn_alloc (grown_trans G gx) _, ⟨own_base (own_keep hR.row (grown_alloc wx _)) G.size⟩⟩
theorem hb_b {w2 W wx : World} {n bx : Nat} {so : Option Addr} {cp : Nat} {rs : List Rc} (G : w2.grownBy W none) (gx : W.grownBy wx none) (hR : Rw wx W.heap.size so cp rs) (hb : bx < W.heap.size) (hg : w2.heap.size ≤ bx) (hx : wx.heap[bx]? = some (.cells [Value.slice none 0 0].toArray 48 (0, 0))) : (wx.setCell ⟨bx, 0, none⟩ (.slice so n cp)).heap[bx]? = some (.cells [Value.slice so n cp].toArray 48 (0, 0)) ∧ w2.grownBy (wx.setCell ⟨bx, 0, none⟩ (.slice so n cp)) none ∧ Rw (wx.setCell ⟨bx, 0, none⟩ (.slice so n cp)) w2.heap.size so cp rs :=
  ⟨row_setCell hx 0 _, gn_set (grown_trans G gx) hg, ⟨own_base (Ix.row_keep hR.row (fun q hq => by
    obtain ⟨h1, cur, hc⟩ := Ix.own_block hR.row hq
    exact (kept_setCell wx bx 0 _).block q (row_lt hc) (by omega))) G.size⟩⟩
theorem rw_cap {w : World} {B0 : Nat} {so : Option Addr} {c2 : Nat} {h : List Rc} (r : Rw w B0 so c2 h) : h.length ≤ c2 ∧ (so = none → h.length = 0 ∧ c2 = 0) := by
  rcases r.row.2 with ⟨e, h0⟩ | ⟨g, cap, cur, hv, -, -, hn, -⟩
  · injection e with e1 e2 e3
    exact ⟨by omega, fun _ => ⟨e2, e3⟩⟩
  · cases hv
    exact ⟨hn, fun e => by cases e⟩
/-- Left before the last of the states. -/
structure HiX (w6 W : World) (c : Code) (O : Nat → Prop) : Prop where
  cd : c = .exit 0
  gr : w6.grownBy W none
  no : ∀ i, O i → w6.heap.size ≤ i
theorem HiX.goes (w6 : World) (c : Code) : Goes (fun (_ : List (Nat × Bp)) O W => HiX w6 W c O) := fun _ _ _ _ _ h k hOO => ⟨h.cd, kept_grown h.gr k h.no, own_from h.gr h.no hOO⟩
set_option maxRecDepth 100000 in
set_option maxHeartbeats 40000000 in
theorem histories_any {w : World} {a1 : Option Addr} {c1 : Nat} {l1 : List Cg} (x : Int) (all : Bool) (fr : Int) (h1 : l1.length ≤ c1) (hC1 : CgsAt w a1 l1) (hT : Rk.Tab w) : Calls Tryz.prog 5 #[.int .i64 x, .slice a1 l1.length c1, .bool all, .int .i64 fr] w fun e w' => e = .returned (.bool true) ∧ w.grownBy w' none := by
  have hos := s_ok x
  have HSp : Hid (∀ W, Calls Tryz.prog 20 #[.int .i64 x] W fun e w' => e = .returned (.agg #[.int .i64 (sa x : Int), .int .i64 (sb x : Int), .int .i64 (sc x : Int)]) ∧ W.grownBy w' none) := fun W => mshape_any x W
  have HFw1 : Hid (∀ W, Calls Tryz.prog 22 #[.slice a1 l1.length c1] W fun e w' => e = .returned (.slice a1 (fw l1).length c1) ∧ w' = W) := fun W => few_any l1 h1 W
  obtain ⟨rs, hrs⟩ : ∃ rs, rs = hs x l1 all := ⟨_, rfl⟩
  obtain ⟨n, hn⟩ : ∃ n, n = rs.length := ⟨_, rfl⟩
  have HHs1 : Hid (∀ W, w.grownBy W none → Calls Tryz.prog 21 #[.agg #[.int .i64 (sa x : Int), .int .i64 (sb x : Int), .int .i64 (sc x : Int)], .slice a1 (fw l1).length c1, .bool all] W fun e w' => ∃ so c2, e = .returned (.slice so n c2) ∧ Rw w' W.heap.size so c2 rs ∧ W.grownBy w' none) := fun W g => by rw [hn, hrs]; exact hs_any x l1 all hC1 g
  have hO : ∀ r ∈ rs, r.Ok := by rw [hrs]; exact fun r hr => (hs_mem x l1 all r hr).2
  have hn120 : n ≤ 120 := by rw [hn, hrs]; exact hs_len x l1 all
  have HOf : Hid (∀ W B0 so c3, w.grownBy W none → Rw W B0 so c3 rs → Calls Tryz.prog 4 #[.agg #[.int .i64 (sa x : Int), .int .i64 (sb x : Int), .int .i64 (sc x : Int)], .slice so n c3] W fun e w' => e = .returned (.bool true) ∧ W.grownBy w' none) := fun W B0 so c3 gW hR => of_all hn.symm (by have := (rw_cap hR).1; omega) (fun e => by have := (rw_cap hR).2 e; exact ⟨by omega, this.2⟩) hR.at hO (hT.new gW)
  have HDs : Hid (∀ W B0 so c3, w.grownBy W none → Rw W B0 so c3 rs → Calls Tryz.prog 16 #[.agg #[.int .i64 (sa x : Int), .int .i64 (sb x : Int), .int .i64 (sc x : Int)], .slice so n c3] W fun e w' => ∃ v, e = .returned (.tuple #[v, .int .i64 (rE (nS (sa x) (sb x) (sc x)) rs)]) ∧ DsP W w' v (fo (nS (sa x) (sb x) (sc x)) rs) (rn (nS (sa x) (sb x) (sc x)) rs + 1)) := fun W B0 so c3 gW hR => dstates_any hos hn.symm (by omega) hR.at hO
  have HSt : Hid (∀ W B0 so c3, w.grownBy W none → Rw W B0 so c3 rs → Calls Tryz.prog 12 #[.agg #[.int .i64 (sa x : Int), .int .i64 (sb x : Int), .int .i64 (sc x : Int)], .slice so n c3] W fun e w' => ∃ v, e = .returned v ∧ StF w' W.heap.size v (sa x) (sb x) (sc x) rs ∧ W.grownBy w' none) := fun W B0 so c3 gW hR => by
    have := states_any (a := (sa x : Int)) (b := (sb x : Int)) (c := (sc x : Int)) (cap := c3) hR.at hO (by omega) (hT.new gW)
    rw [← hn] at this
    exact this
  obtain ⟨m, hm⟩ : ∃ m, m = rn (nS (sa x) (sb x) (sc x)) rs := ⟨_, rfl⟩
  have hmn : m ≤ 120 := by have := (ran_is (nS (sa x) (sb x) (sc x)) rs).le; omega
  have HFi : Hid (∀ W B0 so c3 q yb (y : Bp) k, w.grownBy W none → Rw W B0 so c3 rs → BkAt W y (fo (nS (sa x) (sb x) (sc x)) rs k) 4096 → y.b = yb → Calls Tryz.prog 11 #[.agg #[.int .i64 (sa x : Int), .int .i64 (sb x : Int), .int .i64 (sc x : Int)], .slice so n c3, .int .i64 q, .pointer (some ⟨yb, 0, none⟩)] W fun e w' => e = .returned (fiV (fiR (fun j => sameS (fo (nS (sa x) (sb x) (sc x)) rs j) (fo (nS (sa x) (sb x) (sc x)) rs k)) q m)) ∧ W.grownBy w' none) := by
    intro W B0 so c3 q yb y k gW hR hy hyb
    have := rfind_any (cap := c3) hos hR.at hO (by omega) (hT.new gW) q (some ⟨yb, 0, none⟩) (fun j => sameS (fo (nS (sa x) (sb x) (sc x)) rs j) (fo (nS (sa x) (sb x) (sc x)) rs k)) (fun W' j p g' hj hp => by
      have := same_any hp (hy.then g') (fo_ok (nS_ok hos) rs j).wk (fo_ok (nS_ok hos) rs k).wk (by rw [(fo_abc _ _ j).1]; exact (fo_abc _ _ k).1) (by rw [(fo_abc _ _ j).2.1]; exact (fo_abc _ _ k).2.1)
      rw [hyb] at this
      exact this)
    rw [← hn, ← hm] at this
    exact this
  have HDf : Hid (∀ W B0 so c3 q lo d v k, w.grownBy W none → Rw W B0 so c3 rs → Db W lo d v (fo (nS (sa x) (sb x) (sc x)) rs k) → Calls Tryz.prog 23 #[.agg #[.int .i64 (sa x : Int), .int .i64 (sb x : Int), .int .i64 (sc x : Int)], .slice so n c3, .int .i64 q, .pointer (some ⟨d, 0, none⟩)] W fun e w' => e = .returned (fiV (fiR (fun j => sameS (fo (nS (sa x) (sb x) (sc x)) rs j) (fo (nS (sa x) (sb x) (sc x)) rs k)) q m)) ∧ W.grownBy w' none) := by
    intro W B0 so c3 q lo d v k gW hR hD
    rw [hm]
    exact dsfind_any hos hn.symm (by omega) hR.at hO q hD (fo_abc _ _ k).1 (fo_abc _ _ k).2.1 _ (fun _ => rfl)
  have HV : Hid (∀ (g : Nat → Bool) q, ∃ (fk : Int) (fb : Bool), fiV (fiR g q m) = .tuple #[.int .i64 fk, .bool fb]) := fun g q => by
    cases fiR g q m with
    | some k => exact ⟨_, _, rfl⟩
    | none => exact ⟨_, _, rfl⟩
  have HSq : Hid (∀ (Bs Bl : Nat) (so : Option Addr) (cap : Nat) (W : World), StI W Bs Bl (sa x) (sb x) (sc x) so cap rs → SeqW Fence.wide 5 Tryz.prog 41 #[.pointer (some ⟨Bs, 0, none⟩), .pointer (some ⟨Bl, 0, none⟩)] encS (stR Bs Bl so rs.length) (fun x => x.2.own) (StV (nS (sa x) (sb x) (sc x)) rs) (fun xs => xs.length = m + 1) W) := fun Bs Bl so cap W hI => by rw [hm]; exact st_seq 5 (by decide) Bs Bl (sa x) (sb x) (sc x) hos so cap rs W hI
  have HSv : Hid (∀ pre (y : Nat × Bp) W, StV (nS (sa x) (sb x) (sc x)) rs pre y W → y.1 ≤ m) := fun pre y W h => by rw [hm]; exact h.2.1
  have HAw : Hid (∀ W, w.grownBy W none → Calls Tryz.prog 13 #[] W fun e w' => e = .returned (.bool true) ∧ W.grownBy w' none) := fun W g => awake_any W (hT.new g)
  rw [← hm] at HDs
  obtain ⟨m1, hm1⟩ : ∃ m1, m1 = m + 1 := ⟨_, rfl⟩
  rw [← hm1] at HDs HSq
  have HM1 := hide hm1
  have HN := hide hn
  clear hC1 hT h1 hos hO hrs hm hm1 hn
  generalize rE (nS (sa x) (sb x) (sc x)) rs = er at *
  obtain ⟨A, hA⟩ : ∃ A : Int, A = (sa x : Int) := ⟨_, rfl⟩
  obtain ⟨Bb, hBb⟩ : ∃ A : Int, A = (sb x : Int) := ⟨_, rfl⟩
  obtain ⟨Cc, hCc⟩ : ∃ A : Int, A = (sc x : Int) := ⟨_, rfl⟩
  rw [← hA, ← hBb, ← hCc] at HSp HHs1 HOf HDs HSt HFi HDf HSq
  clear hA hBb hCc
  obtain ⟨w0, hw0⟩ : ∃ w0, w0 = ((w.alloc (.cells #[.int .i64 fr] 3)).alloc (.cells #[.bool false] 4)) := ⟨_, rfl⟩
  have g0 : w.grownBy w0 none := by rw [hw0]; exact gn_alloc (grown_alloc w _) _
  have b7 : w0.heap[w.heap.size]? = some (.cells [Value.int .i64 fr].toArray 3 (0, 0)) := by rw [hw0]; exact keep1 _ _ (heap_alloc_new w _)
  have b8 : w0.heap[w.heap.size + 1]? = some (.cells [Value.bool false].toArray 4 (0, 0)) := by
    rw [hw0]
    have := heap_alloc_new (w.alloc (.cells #[.int .i64 fr] 3)) (.cells [Value.bool false].toArray 4)
    rw [World.size_alloc] at this
    exact this
  have HG0 := hide g0
  have HB78 := hide (And.intro b7 b8)
  have HW0 := hide hw0
  clear g0 b7 b8 hw0
  refine (callsIn_wide (n := 6)).1 (callsIn_of_wp_marks Tryz.func5 rfl trivial ?_ rfl)
  simp only [Tryz.ntmps5, List.size_toArray, List.length_cons, List.length_nil, Nat.reduceAdd, Nat.reduceSub, Array.replicate_succ, Array.replicate_zero, List.push_toArray, List.append_toArray, List.nil_append, List.cons_append]
  refine wpIn_wide.2 ?_
  go_wp2_with fail
  rw [← HW0.out]
  refine (HSp.out _).mono ?_
  clear HSp HW0
  rintro e w1 ⟨rfl, g1⟩
  obtain ⟨w2, hw2⟩ : ∃ w2, w1.alloc (.cells #[.int .i64 A, .int .i64 Bb, .int .i64 Cc] 23) = w2 := ⟨_, rfl⟩
  obtain ⟨B9, hB9⟩ : ∃ B9, w1.heap.size = B9 := ⟨_, rfl⟩
  have b9 : w2.heap[B9]? = some (.cells #[.int .i64 A, .int .i64 Bb, .int .i64 Cc] 23) := by rw [← hw2, ← hB9]; exact heap_alloc_new w1 _
  have g02 : w0.grownBy w2 none := by rw [← hw2]; exact gn_alloc g1 _
  have HKf : Hid (∀ W, w2.grownBy W none → W.cell? ⟨B9, 0, none⟩ = some (.int .i64 A) ∧ W.cell? ⟨B9, 1, none⟩ = some (.int .i64 Bb) ∧ W.cell? ⟨B9, 2, none⟩ = some (.int .i64 Cc)) := by
    intro W gW
    have c := Ge.cell3 ((gW.block _ (row_lt b9) (by simp)).trans b9)
    have s0 := c 0
    have s1 := c 1
    have s2 := c 2
    simp only [Ge.getElem?_v0, Ge.getElem?_v1, Ge.getElem?_v2] at s0 s1 s2
    exact ⟨s0, s1, s2⟩
  have HB7 : Hid (w2.heap[w.heap.size]? = some (.cells [Value.int .i64 fr].toArray 3 (0, 0)) ∧ w2.heap[w.heap.size + 1]? = some (.cells [Value.bool false].toArray 4 (0, 0))) := ⟨(g02.block _ (row_lt HB78.out.1) (by simp)).trans HB78.out.1, (g02.block _ (row_lt HB78.out.2) (by simp)).trans HB78.out.2⟩
  have G2 := hide (grown_trans HG0.out g02)
  have HW2 := hide (And.intro hw2 hB9)
  clear hw2 hB9 b9 g02 g1 HG0 HB78
  go_wp2
  rw [HW2.out.1, HW2.out.2]
  clear HW2
  go_cut [10] from 23 to 27 (fun v10 W => ∃ bx so cp, v10 = .pointer (some ⟨bx, 0, none⟩) ∧ Hid (W.heap[bx]? = some (.cells [Value.slice so n cp].toArray 48 (0, 0)) ∧ w2.grownBy W none ∧ Rw W w2.heap.size so cp rs))
  case first =>
    have hJ0 := HKf.out w2.drew (grown_drew w2 none)
    have hJz := HKf.out _ (gn_drew (grown_alloc w2 (.cells #[.slice none 0 0] 48)))
    refine wp_region_noPanic ?_
    refine wp_region_held_drew (S := (fun W => W.cell? ⟨B9, 0, none⟩ = some (.int .i64 A) ∧ W.cell? ⟨B9, 1, none⟩ = some (.int .i64 Bb) ∧ W.cell? ⟨B9, 2, none⟩ = some (.int .i64 Cc))) (by kernel_rfl) ?_ (fun hHeld => ?_)
    · (exact hJ0)
    refine wpAnyH_take (i := 0) (v := ?_) rfl (by kernel_rfl) (by kernel_rfl) (by kernel_rfl) (fun _ _ _ h => h) (Or.inl ⟨by rfl, ?_⟩) (by assumption) ?_
    rotate_left
    · (intro w hSw; (try dsimp only at hSw); (go_simp <;> with_reducible rfl))
    try simp only [Act.put, List.setIfInBounds_toArray]
    refine wpAnyH_take (i := 1) (v := ?_) rfl (by kernel_rfl) (by kernel_rfl) (by kernel_rfl) (fun _ _ _ h => h) (Or.inl ⟨by rfl, ?_⟩) (by assumption) ?_
    rotate_left
    · (intro w hSw; (try dsimp only at hSw); (go_simp <;> with_reducible rfl))
    try simp only [Act.put]
    refine wpAnyH_take (i := 3) (v := ?_) rfl (by kernel_rfl) (by kernel_rfl) (by kernel_rfl) (fun _ _ _ h => h) (Or.inl ⟨by rfl, ?_⟩) (by assumption) ?_
    rotate_left
    · (intro w hSw; (try dsimp only at hSw); (go_simp <;> with_reducible rfl))
    try simp only [Act.put]
    refine wpAnyH_ready (rs := [2, 5]) (by kernel_rfl) (by simp) ?_
    refine AllReadyH.cons rfl (fun K hK => ?_) ?_
    · skip
      go_simp
      refine (HFw1.out _).mono ?_
      rintro e wy ⟨rfl, hwy⟩
      obtain rfl := hwy.symm
      go_wp2_with fail
      refine hK.out _ _ ?_ (fun hHeld => ?_)
      · ((try dsimp only); with_reducible first | exact hJ | exact hJ0 | exact hJs | exact hJa | exact hJz)
      clear hK K
      try simp only [Act.put, List.setIfInBounds_toArray, List.set_cons_zero, List.set_cons_succ]
      refine wpAnyH_ready (rs := [4, 5]) (by kernel_rfl) (by simp) ?_
      refine AllReadyH.cons rfl (fun K hK => ?_) ?_
      · skip
        go_simp
        refine (HHs1.out _ (grown_trans G2.out (grown_drew w2 none))).mono ?_
        rintro e wx ⟨so2, c2, rfl, hR2, gx⟩
        have HZ := hide (hb_a (n := n) (grown_drew w2 none) gx hR2)
        have hJa := HKf.out _ (gn_alloc (grown_trans (grown_drew w2 none) gx) (.cells #[.slice none 0 0] 48))
        have hJs := HKf.out _ HZ.out.2.1
        have hJ := HKf.out _ (grown_trans (grown_drew w2 none) gx)
        clear gx hR2
        go_wp2_with fail
        refine hK.out _ _ ?_ (fun hHeld => ?_)
        · ((try dsimp only); with_reducible first | exact hJ | exact hJ0 | exact hJs | exact hJa | exact hJz)
        clear hK K
        try simp only [Act.put, List.setIfInBounds_toArray, List.set_cons_zero, List.set_cons_succ]
        refine wpAnyH_ready (rs := [5]) (by kernel_rfl) (by simp) ?_
        refine AllReadyH.cons rfl (fun K hK => ?_) ?_
        rotate_left
        · exact AllReadyH.nil
        go_simp
        refine hK.out _ _ ?_ (fun hHeld => ?_)
        · ((try dsimp only); with_reducible first | exact hJ | exact hJ0 | exact hJs | exact hJa | exact hJz)
        clear hK K
        try simp only [Act.put, List.setIfInBounds_toArray, List.set_cons_zero, List.set_cons_succ]
        refine wpAnyH_ready (rs := [6]) (by kernel_rfl) (by simp) ?_
        refine AllReadyH.cons rfl (fun K hK => ?_) ?_
        rotate_left
        · exact AllReadyH.nil
        go_simp
        refine hK.out _ _ ?_ (fun hHeld => ?_)
        · ((try dsimp only); with_reducible first | exact hJ | exact hJ0 | exact hJs | exact hJa | exact hJz)
        clear hK K
        try simp only [Act.put, List.setIfInBounds_toArray, List.set_cons_zero, List.set_cons_succ]
        refine wpAnyH_done (by kernel_rfl) ?_ _
        refine NoPanic.normal ?_
        go_wp2
        go_meet
        case rel => exact ⟨_, _, _, rfl, HZ.out⟩
      refine AllReadyH.cons rfl (fun K hK => ?_) ?_
      · skip
        go_simp
        refine hK.out _ _ ?_ (fun hHeld => ?_)
        · ((try dsimp only); with_reducible first | exact hJ | exact hJ0 | exact hJs | exact hJa | exact hJz)
        clear hK K
        try simp only [Act.put, List.setIfInBounds_toArray, List.set_cons_zero, List.set_cons_succ]
        obtain ⟨bx, hbx⟩ : ∃ bx, w2.heap.size = bx := ⟨_, rfl⟩
        have HBx : Hid ((w2.alloc (.cells #[.slice none 0 0] 48)).drew.heap[bx]? = some (.cells [Value.slice none 0 0].toArray 48 (0, 0))) := by rw [← hbx]; exact heap_alloc_new w2 _
        have HBg : Hid (w2.heap.size ≤ bx) := by rw [← hbx]; exact Nat.le_refl _
        have G : Hid (w2.grownBy (w2.alloc (.cells #[.slice none 0 0] 48)).drew none) := gn_drew (grown_alloc w2 _)
        have hJ := HKf.out _ G.out
        try rw [hbx]
        clear hbx
        refine wpAnyH_ready (rs := [4]) (by kernel_rfl) (by simp) ?_
        refine AllReadyH.cons rfl (fun K hK => ?_) ?_
        rotate_left
        · exact AllReadyH.nil
        go_simp
        refine (HHs1.out _ (grown_trans G2.out G.out)).mono ?_
        rintro e wx ⟨so2, c2, rfl, hR2, gx⟩
        have HBl := hide (row_lt HBx.out)
        have HBx := hide ((gx.block _ (row_lt HBx.out) (by simp)).trans HBx.out)
        have y0 : wx.cell? ⟨bx, 0, none⟩ = some (.slice none 0 0) := by have := cell_row HBx.out 0; simpa using this
        have z0 : wx.frozen? ⟨bx, 0, none⟩ = false := free_row HBx.out 0
        have HZ := hide (hb_b (n := n) G.out gx hR2 HBl.out HBg.out HBx.out)
        have hJs := HKf.out _ HZ.out.2.1
        have hJ := HKf.out _ (grown_trans G.out gx)
        clear gx hR2
        go_wp2_with fail
        refine hK.out _ _ ?_ (fun hHeld => ?_)
        · ((try dsimp only); with_reducible first | exact hJ | exact hJ0 | exact hJs | exact hJa | exact hJz)
        clear hK K
        try simp only [Act.put, List.setIfInBounds_toArray, List.set_cons_zero, List.set_cons_succ]
        refine wpAnyH_ready (rs := [6]) (by kernel_rfl) (by simp) ?_
        refine AllReadyH.cons rfl (fun K hK => ?_) ?_
        rotate_left
        · exact AllReadyH.nil
        go_simp
        refine hK.out _ _ ?_ (fun hHeld => ?_)
        · ((try dsimp only); with_reducible first | exact hJ | exact hJ0 | exact hJs | exact hJa | exact hJz)
        clear hK K
        try simp only [Act.put, List.setIfInBounds_toArray, List.set_cons_zero, List.set_cons_succ]
        refine wpAnyH_done (by kernel_rfl) ?_ _
        refine NoPanic.normal ?_
        go_wp2
        go_meet
        case rel => exact ⟨_, _, _, rfl, HZ.out⟩
      exact AllReadyH.nil
    refine AllReadyH.cons rfl (fun K hK => ?_) ?_
    · skip
      go_simp
      refine hK.out _ _ ?_ (fun hHeld => ?_)
      · ((try dsimp only); with_reducible first | exact hJ | exact hJ0 | exact hJs | exact hJa | exact hJz)
      clear hK K
      try simp only [Act.put, List.setIfInBounds_toArray, List.set_cons_zero, List.set_cons_succ]
      obtain ⟨bx, hbx⟩ : ∃ bx, w2.heap.size = bx := ⟨_, rfl⟩
      have HBx : Hid ((w2.alloc (.cells #[.slice none 0 0] 48)).drew.heap[bx]? = some (.cells [Value.slice none 0 0].toArray 48 (0, 0))) := by rw [← hbx]; exact heap_alloc_new w2 _
      have HBg : Hid (w2.heap.size ≤ bx) := by rw [← hbx]; exact Nat.le_refl _
      have G : Hid (w2.grownBy (w2.alloc (.cells #[.slice none 0 0] 48)).drew none) := gn_drew (grown_alloc w2 _)
      have hJ := HKf.out _ G.out
      try rw [hbx]
      clear hbx
      refine wpAnyH_ready (rs := [2]) (by kernel_rfl) (by simp) ?_
      refine AllReadyH.cons rfl (fun K hK => ?_) ?_
      rotate_left
      · exact AllReadyH.nil
      go_simp
      refine (HFw1.out _).mono ?_
      rintro e wy ⟨rfl, hwy⟩
      obtain rfl := hwy.symm
      go_wp2_with fail
      refine hK.out _ _ ?_ (fun hHeld => ?_)
      · ((try dsimp only); with_reducible first | exact hJ | exact hJ0 | exact hJs | exact hJa | exact hJz)
      clear hK K
      try simp only [Act.put, List.setIfInBounds_toArray, List.set_cons_zero, List.set_cons_succ]
      refine wpAnyH_ready (rs := [4]) (by kernel_rfl) (by simp) ?_
      refine AllReadyH.cons rfl (fun K hK => ?_) ?_
      rotate_left
      · exact AllReadyH.nil
      go_simp
      refine (HHs1.out _ (grown_trans G2.out G.out)).mono ?_
      rintro e wx ⟨so2, c2, rfl, hR2, gx⟩
      have HBl := hide (row_lt HBx.out)
      have HBx := hide ((gx.block _ (row_lt HBx.out) (by simp)).trans HBx.out)
      have y0 : wx.cell? ⟨bx, 0, none⟩ = some (.slice none 0 0) := by have := cell_row HBx.out 0; simpa using this
      have z0 : wx.frozen? ⟨bx, 0, none⟩ = false := free_row HBx.out 0
      have HZ := hide (hb_b (n := n) G.out gx hR2 HBl.out HBg.out HBx.out)
      have hJs := HKf.out _ HZ.out.2.1
      have hJ := HKf.out _ (grown_trans G.out gx)
      clear gx hR2
      go_wp2_with fail
      refine hK.out _ _ ?_ (fun hHeld => ?_)
      · ((try dsimp only); with_reducible first | exact hJ | exact hJ0 | exact hJs | exact hJa | exact hJz)
      clear hK K
      try simp only [Act.put, List.setIfInBounds_toArray, List.set_cons_zero, List.set_cons_succ]
      refine wpAnyH_ready (rs := [6]) (by kernel_rfl) (by simp) ?_
      refine AllReadyH.cons rfl (fun K hK => ?_) ?_
      rotate_left
      · exact AllReadyH.nil
      go_simp
      refine hK.out _ _ ?_ (fun hHeld => ?_)
      · ((try dsimp only); with_reducible first | exact hJ | exact hJ0 | exact hJs | exact hJa | exact hJz)
      clear hK K
      try simp only [Act.put, List.setIfInBounds_toArray, List.set_cons_zero, List.set_cons_succ]
      refine wpAnyH_done (by kernel_rfl) ?_ _
      refine NoPanic.normal ?_
      go_wp2
      go_meet
      case rel => exact ⟨_, _, _, rfl, HZ.out⟩
    exact AllReadyH.nil

  case rest =>
    obtain ⟨bx, so, cp, rfl, HC⟩ := hcut
    have HB10 : Hid (∀ W, wc.grownBy W none → W.cell? ⟨bx, 0, none⟩ = some (.slice so n cp)) := fun W g => by have := cell_row ((g.block _ (row_lt HC.out.1) (by simp)).trans HC.out.1) 0; simpa using this
    have GW : Hid (w.grownBy wc none) := grown_trans G2.out HC.out.2.1
    obtain ⟨s0, s1, s2⟩ := HKf.out wc HC.out.2.1
    have s10 := HB10.out wc (grown_refl _ _)
    have HOf1 := hide (HOf.out wc _ _ _ GW.out HC.out.2.2)
    clear HFw1 HHs1 HOf
    go_wp2_with fail
    refine HOf1.out.mono ?_
    clear HOf1 s0 s1 s2 s10
    rintro e w3 ⟨rfl, g3⟩
    have G3 := hide g3
    obtain ⟨s0, s1, s2⟩ := HKf.out w3 (grown_trans HC.out.2.1 g3)
    have s10 := HB10.out w3 g3
    have HDs1 := hide (HDs.out w3 _ _ _ (grown_trans GW.out g3) (HC.out.2.2.then g3))
    clear g3 HDs
    go_wp2_with fail
    refine HDs1.out.mono ?_
    clear HDs1 s0 s1 s2 s10
    rintro e w4 ⟨v4, rfl, ds, hD4, g4⟩
    obtain ⟨gv, cv, cur4, rfl, -⟩ := Ix.own_row hD4.row (by have := HM1.out; omega)
    obtain ⟨w5, hw5⟩ : ∃ w5, w5 = w4.alloc (.cells #[.slice (some ⟨gv, 0, none⟩) m1 cv] 56) := ⟨_, rfl⟩
    obtain ⟨B11, hB11⟩ : ∃ B11, w4.heap.size = B11 := ⟨_, rfl⟩
    have g45 : w4.grownBy w5 none := by rw [hw5]; exact grown_alloc _ _
    have g5 : wc.grownBy w5 none := grown_trans G3.out (grown_trans g4 g45)
    have HB11 : Hid (w5.heap[B11]? = some (.cells [Value.slice (some ⟨gv, 0, none⟩) m1 cv].toArray 56 (0, 0))) := by rw [hw5, ← hB11]; exact heap_alloc_new w4 _
    have D5 := hide (hD4.then g45)
    have G5 := hide g5
    have HW5 := hide (And.intro hw5 hB11)
    obtain ⟨s0, s1, s2⟩ := HKf.out w5 (grown_trans HC.out.2.1 g5)
    have s10 := HB10.out w5 g5
    have HSt1 := hide (HSt.out w5 _ _ _ (grown_trans GW.out g5) (HC.out.2.2.then g5))
    rw [hw5] at s0 s1 s2 s10
    clear hw5 hB11 hD4 g4 g5 g45 HSt
    go_wp2_with fail
    rw [← HW5.out.1]
    refine HSt1.out.mono ?_
    clear HSt1 s0 s1 s2 s10
    rintro e w6 ⟨vf, rfl, ⟨Bs, Bl, so', cap', rfl, hI, hB⟩, g6⟩
    have HI := hide (And.intro hI hB)
    have HAll : Hid (∀ W, w6.grownBy W none → (W.cell? ⟨B9, 0, none⟩ = some (.int .i64 A) ∧ W.cell? ⟨B9, 1, none⟩ = some (.int .i64 Bb) ∧ W.cell? ⟨B9, 2, none⟩ = some (.int .i64 Cc)) ∧ W.cell? ⟨bx, 0, none⟩ = some (.slice so n cp) ∧ W.cell? ⟨B11, 0, none⟩ = some (.slice (some ⟨gv, 0, none⟩) m1 cv) ∧ W.cell? ⟨w.heap.size, 0, none⟩ = some (.int .i64 fr) ∧ W.heap[w.heap.size + 1]? = some (.cells [Value.bool false].toArray 4 (0, 0)) ∧ Rw W w2.heap.size so cp rs ∧ Dl W w3.heap.size (.slice (some ⟨gv, 0, none⟩) m1 cv) (fo (nS (sa x) (sb x) (sc x)) rs) m1 ds ∧ w.grownBy W none) := by
      intro W gW
      have gc := grown_trans G5.out (grown_trans g6 gW)
      have g2 := grown_trans HC.out.2.1 gc
      refine ⟨HKf.out W g2, HB10.out W gc, ?_, ?_, (g2.block _ (row_lt HB7.out.2) (by simp)).trans HB7.out.2, HC.out.2.2.then gc, D5.out.then (grown_trans g6 gW), grown_trans G2.out g2⟩
      · rw [cell_row (((grown_trans g6 gW).block _ (row_lt HB11.out) (by simp)).trans HB11.out)]; rfl
      · rw [cell_row ((g2.block _ (row_lt HB7.out.1) (by simp)).trans HB7.out.1)]; rfl
    have hw6 := (HAll.out w6 (grown_refl _ _)).2.2.2.2.2.2.2.size
    have hw61 := row_lt (HAll.out w6 (grown_refl _ _)).2.2.2.2.1
    clear hI hB g6 D5 G5 HB11 HC HB10 HKf GW G3 HB7 G2
    go_wp2
    rw [HW5.out.2]
    clear HW5
    refine (wpIn_wide (n := 6)).1 (wpIn_range_F (w := w6) rfl (by decide) (gf := 41) (lb := #[.pointer (some ⟨Bs, 0, none⟩), .pointer (some ⟨Bl, 0, none⟩)]) rfl trivial (enters_of Tryz.func41 (by kernel_rfl) rfl)
      (encs := encS) (R := stR Bs Bl so' rs.length) (E := fun x => x.2.own) (V := StV (nS (sa x) (sb x) (sc x)) rs) (S := fun xs => xs.length = m1)
      HI.out.1.lt (fun W hW => HSq.out Bs Bl so' cap' W (HI.out.1.grown hW)) (fun _ => rfl) (fun pre x A B h k => StV.keep h k)
      (fun pre O W => FiI w6 W (fun _ => false) 0 pre O) (fun cd _ O W => HiX w6 W cd O)
      (FiI.goes w6 _ 0) (fun c => HiX.goes w6 c) ⟨grown_refl _ _, fun _ e => e.elim, fun j hj => by simp at hj⟩
      ?afr ?assign ?body ?done ?stop)
    case assign =>
      intro l y W K hK
      simp only [encS]
      gi_wp2
      exact hK
    case body =>
      rintro l pre y O W hI hV hsz hE hO
      have hym := HSv.out pre y W hV
      obtain ⟨⟨s0, s1, s2⟩, s10, s11, s7, -, -, hDl, -⟩ := HAll.out W hI.gr
      obtain ⟨⟨dk, uk⟩, hdk⟩ : ∃ x, ds[y.1]? = some x := ⟨ds[y.1]'(by rw [hDl.len]; have := HM1.out; omega), List.getElem?_eq_getElem _⟩
      have HCa : Hid (∀ q, ∃ (fk : Int) (fb : Bool), ∀ W', W.grownBy W' none → (Calls Tryz.prog 11 #[.agg #[.int .i64 A, .int .i64 Bb, .int .i64 Cc], .slice so n cp, .int .i64 q, .pointer (some ⟨y.2.b, 0, none⟩)] W' fun e w' => e = .returned (.tuple #[.int .i64 fk, .bool fb]) ∧ W'.grownBy w' none) ∧ (Calls Tryz.prog 23 #[.agg #[.int .i64 A, .int .i64 Bb, .int .i64 Cc], .slice so n cp, .int .i64 q, .pointer (some ⟨dk, 0, none⟩)] W' fun e w' => e = .returned (.tuple #[.int .i64 fk, .bool fb]) ∧ W'.grownBy w' none)) := fun q => by
        obtain ⟨fk, fb, e⟩ := HV.out (fun j => sameS (fo (nS (sa x) (sb x) (sc x)) rs j) (fo (nS (sa x) (sb x) (sc x)) rs y.1)) q
        refine ⟨fk, fb, fun W' g => ?_⟩
        rw [← e]
        obtain ⟨-, -, -, -, -, hR', hD', gW'⟩ := HAll.out W' (grown_trans hI.gr g)
        exact ⟨HFi.out W' _ _ _ q _ y.2 y.1 gW' hR' (hV.2.2.then g) rfl, HDf.out W' _ _ _ q _ _ _ y.1 gW' hR' (hD'.bk y.1 _ hdk)⟩
      have HCe : Hid (∀ W', W.grownBy W' none → W'.cell? ⟨B9, 0, none⟩ = some (.int .i64 A) ∧ W'.cell? ⟨B9, 1, none⟩ = some (.int .i64 Bb) ∧ W'.cell? ⟨B9, 2, none⟩ = some (.int .i64 Cc) ∧ W'.cell? ⟨bx, 0, none⟩ = some (.slice so n cp) ∧ W'.cell? ⟨B11, 0, none⟩ = some (.slice (some ⟨gv, 0, none⟩) m1 cv) ∧ W'.cell? ⟨gv, y.1, none⟩ = some (.pointer (some ⟨dk, 0, none⟩))) := fun W' g => by
        obtain ⟨h1, h2, h3, -, -, -, hD', -⟩ := HAll.out W' (grown_trans hI.gr g)
        exact ⟨h1.1, h1.2.1, h1.2.2, h2, h3, hD'.cell hdk⟩
      obtain ⟨PQ, hPQ⟩ : ∃ PQ, PQ = postW (fun i => O i ∨ stR Bs Bl so' rs.length i) O (fun pre O W => FiI w6 W (fun _ => false) 0 pre O) (fun cd _ O W => HiX w6 W cd O) (pre ++ [y]) W := ⟨_, rfl⟩
      rw [← hPQ]
      have HPn : Hid (∀ (a' : Act) (W' : World), W.grownBy W' none → PQ .normal a' W') := by
        intro a' W' h1
        rw [hPQ]
        exact ⟨Kept.new h1 _, grown_trans hI.gr h1, hI.no, fun j hj e => by cases e.2⟩
      have HPx : Hid (∀ (a' : Act) (W' : World), W.grownBy W' none → PQ (.exit 0) a' W') := by
        intro a' W' h1
        rw [hPQ]
        exact ⟨Kept.new h1 _, rfl, grown_trans hI.gr h1, hI.no⟩
      have HPp : Hid (∀ (c : List PanicEntry) (a' : Act) (W' : World), ¬ PQ (.panic c) a' W') := by rw [hPQ]; exact fun _ _ _ h => h
      have HPo : Hid (∀ (a' : Act) (W' : World), ¬ PQ .outgrown a' W') := by rw [hPQ]; exact fun _ _ h => h
      have j0 : (0 : Int) ≤ (y.1 : Int) := by omega
      have j1 : (y.1 : Int) < (m1 : Int) := by have := HM1.out; omega
      have j2 : y.1 ≤ 120 := by omega
      have j3 : ¬ (m1 : Int) ≤ (y.1 : Int) := by omega
      clear hPQ hV hI hE hO hsz hDl hym hdk hw6 hw61
      generalize y.1 = k at *
      generalize y.2.b = yb at *
      gi_wp2
      gi_loopg [55] 4 (fun gk v55 wr => ∃ j : Nat, gk + j = 4 ∧ v55 = .int .i64 j ∧ Hid (W.grownBy wr none ∧ ∀ i, i < 4 → ∃ q, wr.cell? ⟨W.heap.size, i, none⟩ = some (.int .i64 q)))
      case atStart =>
        refine ⟨0, by omega, rfl, grown_alloc W _, fun i hi => ?_⟩
        have hb := heap_alloc_new W (.cells [Value.int .i64 fr, .int .i64 ((k : Int) - 1), .int .i64 (k : Int), .int .i64 ((k : Int) + 1)].toArray 3)
        obtain rfl | rfl | rfl | rfl : i = 0 ∨ i = 1 ∨ i = 2 ∨ i = 3 := by omega
        · exact ⟨_, (cell_row hb 0).trans rfl⟩
        · exact ⟨_, (cell_row hb 1).trans rfl⟩
        · exact ⟨_, (cell_row hb 2).trans rfl⟩
        · exact ⟨_, (cell_row hb 3).trans rfl⟩
      case round =>
        clear s0 s1 s2 s10 s11 s7
        obtain ⟨j, hkj, rfl, HL⟩ := hrel
        by_cases hk : 0 < gk
        · obtain ⟨q, cq⟩ := HL.out.2 j (by omega)
          obtain ⟨fk, fb, hF⟩ := HCa.out q
          obtain ⟨s0, s1, s2, s10, s11, sk⟩ := HCe.out wr HL.out.1
          have HF := hide hF
          have H11 := hide (hF wr HL.out.1).1
          have i0 : (0 : Int) ≤ (j : Int) := by omega
          have i1 : (j : Int) < 4 := by omega
          have HGK := hide (And.intro hk hkj)
          clear hF HCa hk hkj
          gi_wp2_with fail
          refine ⟨trivial, ?_⟩
          refine (CallsIn.inRound l (callsIn_wide.2 H11.out)).mono ?_
          clear H11 s0 s1 s2 s10 s11 sk cq
          rintro e wz ⟨rfl, gz⟩
          have GZ := hide (grown_trans HL.out.1 gz)
          have HL2 : Hid (∀ wq, wz.grownBy wq none → W.grownBy wq none ∧ ∀ i, i < 4 → ∃ q, wq.cell? ⟨W.heap.size, i, none⟩ = some (.int .i64 q)) := fun wq gq => ⟨grown_trans GZ.out gq, fun i hi => by obtain ⟨q, h⟩ := HL.out.2 i hi; exact ⟨q, (grown_trans gz gq).cell h (by simp)⟩⟩
          have H23 : Hid (∀ W', wz.grownBy W' none → Calls Tryz.prog 23 #[.agg #[.int .i64 A, .int .i64 Bb, .int .i64 Cc], .slice so n cp, .int .i64 q, .pointer (some ⟨dk, 0, none⟩)] W' fun e w' => e = .returned (.tuple #[.int .i64 fk, .bool fb]) ∧ W'.grownBy w' none) := fun W' g => (HF.out W' (grown_trans GZ.out g)).2
          obtain ⟨s0, s1, s2, s10, s11, sk⟩ := HCe.out wz GZ.out
          clear gz HL HF
          gi_wp2_with fail
          have hJ0 := HCe.out wz.drew (gn_drew GZ.out)
          refine wpIn_round_held (S := (fun W => W.cell? ⟨B9, 0, none⟩ = some (.int .i64 A) ∧ W.cell? ⟨B9, 1, none⟩ = some (.int .i64 Bb) ∧ W.cell? ⟨B9, 2, none⟩ = some (.int .i64 Cc) ∧ W.cell? ⟨bx, 0, none⟩ = some (.slice so n cp) ∧ W.cell? ⟨B11, 0, none⟩ = some (.slice (some ⟨gv, 0, none⟩) m1 cv) ∧ W.cell? ⟨gv, k, none⟩ = some (.pointer (some ⟨dk, 0, none⟩)))) (by kernel_rfl) (by kernel_rfl) (by rintro ⟨_, _, h⟩; exact HPo.out _ _ h) ?_ (fun hHeld => ?_)
          · (exact hJ0)
          refine wpAnyH_take (i := 0) (v := ?_) rfl (by kernel_rfl) (by kernel_rfl) (by kernel_rfl) (fun _ _ _ h => (HPp.out _ _ _ h).elim) (Or.inl ⟨by rfl, ?_⟩) (by assumption) ?_
          rotate_left
          · (intro w hSw; (try dsimp only at hSw); (go_simp <;> with_reducible rfl))
          try simp only [Act.put, List.setIfInBounds_toArray]
          refine wpAnyH_take (i := 1) (v := ?_) rfl (by kernel_rfl) (by kernel_rfl) (by kernel_rfl) (fun _ _ _ h => (HPp.out _ _ _ h).elim) (Or.inl ⟨by rfl, ?_⟩) (by assumption) ?_
          rotate_left
          · (intro w hSw; (try dsimp only at hSw); (go_simp <;> with_reducible rfl))
          try simp only [Act.put]
          refine wpAnyH_take (i := 2) (v := ?_) rfl (by kernel_rfl) (by kernel_rfl) (by kernel_rfl) (fun _ _ _ h => (HPp.out _ _ _ h).elim) (Or.inl ⟨by rfl, ?_⟩) (by assumption) ?_
          rotate_left
          · (intro w hSw; (try dsimp only at hSw); (go_simp <;> with_reducible rfl))
          try simp only [Act.put]
          refine wpAnyH_take (i := 3) (v := ?_) rfl (by kernel_rfl) (by kernel_rfl) (by kernel_rfl) (fun _ _ _ h => (HPp.out _ _ _ h).elim) (Or.inl ⟨by rfl, ?_⟩) (by assumption) ?_
          rotate_left
          · (intro w hSw; (try dsimp only at hSw); (go_simp <;> with_reducible rfl))
          try simp only [Act.put]
          refine wpAnyH_take (i := 4) (v := ?_) rfl (by kernel_rfl) (by kernel_rfl) (by kernel_rfl) (fun _ _ _ h => (HPp.out _ _ _ h).elim) (Or.inl ⟨by rfl, ?_⟩) (by assumption) ?_
          rotate_left
          · (intro w hSw; (try dsimp only at hSw); (go_simp <;> with_reducible rfl))
          try simp only [Act.put]
          refine wpAnyH_take (i := 5) (v := ?_) rfl (by kernel_rfl) (by kernel_rfl) (by kernel_rfl) (fun _ _ _ h => (HPp.out _ _ _ h).elim) (Or.inl ⟨by rfl, ?_⟩) (by assumption) ?_
          rotate_left
          · (intro w hSw; (try dsimp only at hSw); (go_simp <;> with_reducible rfl))
          try simp only [Act.put]
          refine wpAnyH_take (i := 6) (v := ?_) rfl (by kernel_rfl) (by kernel_rfl) (by kernel_rfl) (fun _ _ _ h => (HPp.out _ _ _ h).elim) (Or.inl ⟨by rfl, ?_⟩) (by assumption) ?_
          rotate_left
          · (intro w hSw; (try dsimp only at hSw); (go_simp <;> with_reducible rfl))
          try simp only [Act.put]
          refine wpAnyH_ready (rs := [7]) (by kernel_rfl) (by simp) ?_
          refine AllReadyH.cons rfl (fun K hK => ?_) ?_
          rotate_left
          · exact AllReadyH.nil
          go_simp
          refine (H23.out _ (grown_drew wz none)).mono ?_
          rintro e wq ⟨rfl, gq⟩
          have GQ := hide (HL2.out wq (grown_trans (grown_drew wz none) gq))
          have hJ := HCe.out wq GQ.out.1
          clear gq
          go_wp2_with fail
          refine hK.out _ _ ?_ (fun hHeld => ?_)
          · ((try dsimp only); first | with_reducible exact hJ | with_reducible exact hJ0 | exact hJ)
          clear hK K
          try simp only [Act.put, List.setIfInBounds_toArray, List.set_cons_zero, List.set_cons_succ]
          refine wpAnyH_take (i := 8) (v := ?_) rfl (by kernel_rfl) (by kernel_rfl) (by kernel_rfl) (fun _ _ _ h => (HPp.out _ _ _ h).elim) (Or.inl ⟨by rfl, ?_⟩) (by assumption) ?_
          rotate_left
          · (intro w hSw; (try dsimp only at hSw); (go_simp <;> with_reducible rfl))
          try simp only [Act.put, List.setIfInBounds_toArray]
          refine wpAnyH_take (i := 9) (v := ?_) rfl (by kernel_rfl) (by kernel_rfl) (by kernel_rfl) (fun _ _ _ h => (HPp.out _ _ _ h).elim) (Or.inl ⟨by rfl, ?_⟩) (by assumption) ?_
          rotate_left
          · (intro w hSw; (try dsimp only at hSw); (go_simp <;> with_reducible rfl))
          try simp only [Act.put]
          refine wpAnyH_take (i := 10) (v := ?_) rfl (by kernel_rfl) (by kernel_rfl) (by kernel_rfl) (fun _ _ _ h => (HPp.out _ _ _ h).elim) (Or.inl ⟨by rfl, ?_⟩) (by assumption) ?_
          rotate_left
          · (intro w hSw; (try dsimp only at hSw); (go_simp <;> with_reducible rfl))
          try simp only [Act.put]
          refine wpAnyH_take (i := 11) (v := ?_) rfl (by kernel_rfl) (by kernel_rfl) (by kernel_rfl) (fun _ _ _ h => (HPp.out _ _ _ h).elim) (Or.inl ⟨by rfl, ?_⟩) (by assumption) ?_
          rotate_left
          · (intro w hSw; (try dsimp only at hSw); (go_simp <;> with_reducible rfl))
          try simp only [Act.put]
          refine wpAnyH_take (i := 12) (v := ?_) rfl (by kernel_rfl) (by kernel_rfl) (by kernel_rfl) (fun _ _ _ h => (HPp.out _ _ _ h).elim) (Or.inl ⟨by rfl, ?_⟩) (by assumption) ?_
          rotate_left
          · (intro w hSw; (try dsimp only at hSw); (go_simp <;> with_reducible rfl))
          try simp only [Act.put]
          refine wpAnyH_done (by kernel_rfl) ?_ _
          have e1 : (fk != fk) = false := by simp
          have e2 : (fb != fb) = false := by simp
          clear s0 s1 s2 s10 s11 sk H23 HL2 hJ hJ0 hHeld
          gi_wp2
          gi_roundg (gk - 1)
          case measure => have := HGK.out; omega
          case rel => exact ⟨j + 1, by have := HGK.out; omega, by go_num, GQ.out⟩
        · obtain rfl : j = 4 := by omega
          have HG := hide HL.out.1
          clear HL HCa HCe
          by_cases h12 : (12 : Int) < (k : Int)
          · gi_wp2
            exact HPx.out _ _ HG.out
          · gi_wp2
            exact HPn.out _ _ HG.out
    case done =>
      rintro D xs O W hD hS hI hOD hK
      obtain ⟨-, -, -, -, h8, -, -, gW⟩ := HAll.out W hI.gr
      have HA := hide (HAw.out W gW)
      have HX := hide (And.intro gW (And.intro hK (And.intro hD h8)))
      clear hS gW h8 hI hK hOD HAll HAw HI HSq HSv HFi HDf HV
      go_wp2_with fail
      refine HA.out.mono ?_
      rintro e wz ⟨rfl, gz⟩
      have HRw : Hid (wz.heap[w.heap.size + 1]? = some (.cells [Value.bool false].toArray 4 (0, 0))) := (gz.block _ (row_lt HX.out.2.2.2) (by simp)).trans HX.out.2.2.2
      have cr : wz.cell? ⟨w.heap.size + 1, 0, none⟩ = some (.bool false) := by rw [cell_row HRw.out]; rfl
      have cz := free_row HRw.out 0
      have H9 := hide gz
      clear gz HA
      go_wp2
      obtain ⟨x1, x2, x3, -⟩ := HX.out
      have gs := grown_setCell wz (w.heap.size + 1) 0 (Value.bool true)
      have hD1 : D ≠ w.heap.size + 1 := fun e => by rw [e] at x3; omega
      have hK1 := (H9.out.block D (row_lt x2) (by simp)).trans x2
      have hK' : (wz.setCell ⟨w.heap.size + 1, 0, none⟩ (Value.bool true)).heap[D]? = _ := (gs.block D (row_lt hK1) (fun e => hD1 (Option.some.inj e))).trans hK1
      refine ⟨by simp, .inl ⟨_, _, rfl, run_takeDeferred hK', ?_⟩⟩
      refine ⟨_, results_cell4 rfl _ _ (w.heap.size + 1) (.bool true) rfl ?_, rfl, ?_⟩
      · exact (grownBy_putObj' _ D _).cell (by rw [cell_row (row_setCell HRw.out 0 _)]; rfl) (fun e => hD1 (Option.some.inj e).symm)
      · refine grown_then (grown_then (grown_trans x1 H9.out) gs (fun j e => .inl (by cases e; omega))) (grownBy_putObj' _ D _) (fun j e => by cases e; exact Or.inl (by omega))
    case stop =>
      rintro D cd pre O W hD hX hOD hK
      obtain ⟨-, -, -, -, h8, -, -, gW⟩ := HAll.out W hX.gr
      obtain rfl := hX.cd
      have HA := hide (HAw.out W gW)
      have HX := hide (And.intro gW (And.intro hK (And.intro hD h8)))
      clear gW h8 hX hK hOD HAll HAw HI HSq HSv HFi HDf HV
      refine wpIn_wide.2 ?_
      go_wp2_with fail
      refine HA.out.mono ?_
      rintro e wz ⟨rfl, gz⟩
      have HRw : Hid (wz.heap[w.heap.size + 1]? = some (.cells [Value.bool false].toArray 4 (0, 0))) := (gz.block _ (row_lt HX.out.2.2.2) (by simp)).trans HX.out.2.2.2
      have cr : wz.cell? ⟨w.heap.size + 1, 0, none⟩ = some (.bool false) := by rw [cell_row HRw.out]; rfl
      have cz := free_row HRw.out 0
      have H9 := hide gz
      clear gz HA
      go_wp2
      obtain ⟨x1, x2, x3, -⟩ := HX.out
      have gs := grown_setCell wz (w.heap.size + 1) 0 (Value.bool true)
      have hD1 : D ≠ w.heap.size + 1 := fun e => by rw [e] at x3; omega
      have hK1 := (H9.out.block D (row_lt x2) (by simp)).trans x2
      have hK' : (wz.setCell ⟨w.heap.size + 1, 0, none⟩ (Value.bool true)).heap[D]? = _ := (gs.block D (row_lt hK1) (fun e => hD1 (Option.some.inj e))).trans hK1
      refine ⟨by simp, .inl ⟨_, _, rfl, run_takeDeferred hK', ?_⟩⟩
      refine ⟨_, results_cell4 rfl _ _ (w.heap.size + 1) (.bool true) rfl ?_, rfl, ?_⟩
      · exact (grownBy_putObj' _ D _).cell (by rw [cell_row (row_setCell HRw.out 0 _)]; rfl) (fun e => hD1 (Option.some.inj e).symm)
      · refine grown_then (grown_then (grown_trans x1 H9.out) gs (fun j e => .inl (by cases e; omega))) (grownBy_putObj' _ D _) (fun j e => by cases e; exact Or.inl (by omega))

end Go.Proofs.YtinkkocleognbaaGreatDoor
