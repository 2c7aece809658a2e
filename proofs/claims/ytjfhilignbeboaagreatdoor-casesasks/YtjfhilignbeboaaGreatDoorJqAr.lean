/- Texts joined: Hy3, LaC, Qm, Rqs. -/
import Derived.Test.YtjfhilignbeboaaGreatDoorJqAo
import Derived.Test.YtjfhilignbeboaaGreatDoorJqAq
import Derived.Test.YtjfhilignbeboaaGreatDoorJqAi
import Derived.Laws.BytesArg
import Derived.Test.YtjfhilignbeboaaGreatDoorJqAl
import Derived.Test.YtjfhilignbeboaaGreatDoorJqAj
namespace Go.Proofs.YtjfhilignbeboaaGreatDoor
/- Histories. -/
open Go.RowKit
attribute [local go_sem ↓] Go.wp_at_zero Go.wp_at_succ
attribute [local go_sem] Oper.semAt_some
/-- Changes that lie somewhere. -/
def CgsAt (w : World) (ao : Option Addr) (l : List Cg) : Prop := ∀ j c, l[j]? = some c → ∃ blk off, ao = some (⟨blk, off, none⟩ : Addr) ∧ w.cell? ⟨blk, off + j * 4, none⟩ = some (.int .i64 c.k) ∧ w.cell? ⟨blk, off + j * 4 + 1, none⟩ = some (.int .i64 c.i) ∧ w.cell? ⟨blk, off + j * 4 + 2, none⟩ = some (.int .i64 c.s) ∧ w.cell? ⟨blk, off + j * 4 + 3, none⟩ = some (.int .i64 c.t)
theorem CgsAt.grown {w w' : World} {ao : Option Addr} {l : List Cg} (h : CgsAt w ao l) (g : w.grownBy w' none) : CgsAt w' ao l := by
  intro j o hj
  obtain ⟨b, off, e, h1, h2, h3, h4⟩ := h j o hj
  exact ⟨b, off, e, g.cell h1 (by simp), g.cell h2 (by simp), g.cell h3 (by simp), g.cell h4 (by simp)⟩
theorem CgsAt.take {w : World} {ao : Option Addr} {l : List Cg} (h : CgsAt w ao l) (n : Nat) : CgsAt w ao (l.take n) := fun j c hj => by
  refine h j c ?_
  rw [List.getElem?_take] at hj
  split at hj
  · exact hj
  · cases hj
/-- Inside History, behind j changes. -/
structure HiS (w wr : World) (d : Nat) (S0 : Sb) (l : List Cg) (all : Bool) (j : Nat) (q : Value) : Prop where
  db : ∃ v, Db wr w.heap.size d v (hS S0 l j)
  row : wr.ownsRow w.heap.size 28 5 q (hist all S0 (l.take j)).length (rcs (hist all S0 (l.take j)))
  gr : w.grownBy wr none
theorem HiS.then {w wr wr' : World} {d : Nat} {S0 : Sb} {l : List Cg} {all : Bool} {j : Nat} {q : Value} (h : HiS w wr d S0 l all j q) (g : wr.grownBy wr' none) : HiS w wr' d S0 l all j q := by
  obtain ⟨v, h1⟩ := h.db
  exact ⟨⟨v, h1.then g⟩, own_keep h.row g, grown_trans h.gr g⟩
/-- A row of records lies off the document's book. -/
theorem row_off {w : World} {lo d b n : Nat} {v q : Value} {S : Sb} {xs : List Value} (h : Db w lo d v S) (hr : w.ownsRow b 28 5 q n xs) : ∀ i, q.ownBlock = some i → ¬ dbo d v i := by
  rintro i hi (e | e)
  · obtain ⟨-, cur, hc⟩ := Ix.own_block hr hi
    rw [e, h.head] at hc
    cases hc
  · obtain ⟨-, cur, hc⟩ := Ix.own_block hr hi
    obtain ⟨-, cur', hc'⟩ := Ix.own_block h.row e
    rw [hc] at hc'
    cases hc'
def zrc : List Value := [.int .i64 0, .int .u32 0, .int .i64 0, .int .i64 0, .int .i64 0]
theorem mid_b {wr w1 : World} (g : (wr.alloc (.cells zrc.toArray 28)).grownBy w1 none) : w1.heap[wr.heap.size]? = some (.cells zrc.toArray 28 (0, 0)) := (g.block _ (row_lt (heap_alloc_new wr _)) (by simp)).trans (heap_alloc_new wr _)
set_option maxRecDepth 20000 in
set_option maxHeartbeats 16000000 in
theorem hist_any {w : World} {a b c : Nat} (ho : Gx.OkS a b c) {ao : Option Addr} {cap : Nat} {l : List Cg} (hl : l.length ≤ 1000) (hC : CgsAt w ao l) (all : Bool) : Calls Tryz.prog 42 #[limV a b c, .slice ao l.length cap, .bool all] w fun e w' => ∃ so c2, e = .returned (.slice so (hist all (nS a b c) l).length c2) ∧ w'.ownsRow w.heap.size 28 5 (.slice so (hist all (nS a b c) l).length c2) (hist all (nS a b c) l).length (rcs (hist all (nS a b c) l)) ∧ w.grownBy w' none := by
  have b0 := grown_alloc w (.cells [Value.int .i64 (a : Int), .int .i64 (b : Int), .int .i64 (c : Int)].toArray 36)
  have HN : Hid (Calls Tryz.prog 41 #[.agg #[.int .i64 (a : Int), .int .i64 (b : Int), .int .i64 (c : Int)]] (w.alloc (.cells [Value.int .i64 (a : Int), .int .i64 (b : Int), .int .i64 (c : Int)].toArray 36)) fun e w' => ∃ d, e = .returned (.tuple #[.pointer (some ⟨d, 0, none⟩), .int .i64 0]) ∧ HiS w w' d (nS a b c) l all 0 (.slice none 0 0)) := by
    refine (dnew_any ho _).mono ?_
    rintro e w' ⟨d, rfl, h1, h2⟩
    exact ⟨d, rfl, ⟨_, h1.head, own_base h1.row b0.size, Nat.le_trans b0.size h1.ge⟩, World.ownsRow_nil _ _ _ _, grown_trans b0 h2⟩
  have HOk : Hid (∀ j, (hS (nS a b c) l j).Ok) := fun j => hS_ok (nS_ok ho) l j
  have HRe : Hid (∀ (c' : Cg) j (W : World), Calls Tryz.prog 101 #[.agg #[.int .i64 c'.k, .int .i64 c'.i, .int .i64 c'.s, .int .i64 c'.t], .int .u32 ((hS (nS a b c) l j).n : Int), .int .i64 (hS (nS a b c) l j).t] W fun e w' => e = .returned (.agg (rcc (cgR c' (hS (nS a b c) l j).n (hS (nS a b c) l j).t)).toArray) ∧ W.grownBy w' none) := fun c' j W => mrec_any c' _ _ (HOk.out j).n0 (HOk.out j).n1 (HOk.out j).t0 (HOk.out j).t1 W
  have HSt : Hid (∀ j c', l[j]? = some c' → hS (nS a b c) l (j + 1) = app (hS (nS a b c) l j) (cgR c' (hS (nS a b c) l j).n (hS (nS a b c) l j).t)) := fun j c' h => hS_succ h
  have HHt : Hid (∀ j c', l[j]? = some c' → hist all (nS a b c) (l.take (j + 1)) = hist all (nS a b c) (l.take j) ++ (if appE (hS (nS a b c) l j) (cgR c' (hS (nS a b c) l j).n (hS (nS a b c) l j).t) = 0 ∨ all = true then [cgR c' (hS (nS a b c) l j).n (hS (nS a b c) l j).t] else [])) := fun j c' h => hist_take h
  have HLe : Hid (∀ j, (hist all (nS a b c) (l.take j)).length ≤ j) := fun j => Nat.le_trans (hist_le all _ _) (by rw [List.length_take]; omega)
  have HAll : Hid (l.take l.length = l) := List.take_length
  have HC := hide hC
  clear ho b0 hC
  unfold limV
  generalize (nS a b c) = S0 at *
  generalize (a : Int) = a at *
  generalize (b : Int) = b at *
  generalize (c : Int) = c at *
  obtain ⟨i0, hi0, hz0, hz1, hz2⟩ := info_parts info47
  have HI0 := hide (And.intro hi0 (And.intro hz0 (And.intro hz1 hz2)))
  clear hi0 hz0 hz1 hz2
  go_enter Tryz.func42, Tryz.ntmps42
  go_wp2_with fail
  refine HN.out.mono ?_
  rintro e w1 ⟨d, rfl, h1⟩
  have H1 := hide h1
  clear h1 HN
  go_wp2
  go_loopg [9, 10] l.length (fun k q9 q10 wr => ∃ (j : Nat) (vq : Option Addr) (mq cq : Nat), k + j = l.length ∧ q10 = .int .i64 (j : Int) ∧ q9 = .slice vq mq cq ∧ Hid (HiS w wr d S0 l all j (.slice vq mq cq)))
  case atStart => exact ⟨0, none, 0, 0, by omega, rfl, rfl, H1.out⟩
  case round =>
    clear H1
    obtain ⟨j, vq, mq, cq, hkj, rfl, rfl, HH⟩ := hrel
    by_cases hk : 0 < gk
    · have hj : j < l.length := by omega
      have h1 : (j : Int) < (l.length : Int) := by omega
      have h0 : (0 : Int) ≤ (j : Int) := by omega
      obtain ⟨c', hc'⟩ : ∃ c', l[j]? = some c' := ⟨l[j]'hj, List.getElem?_eq_getElem hj⟩
      obtain ⟨rb, off, rfl, k0, k1, k2, k3⟩ := (HC.out.grown HH.out.gr) j c' hc'
      obtain ⟨vd, hdb⟩ := HH.out.db
      have HD := hide hdb
      have d5 := hdb.cell (j := 5) rfl
      have d6 := hdb.cell (j := 6) rfl
      have HRe' := hide (HRe.out c' j)
      obtain ⟨r, hr⟩ : ∃ r, r = cgR c' (hS S0 l j).n (hS S0 l j).t := ⟨_, rfl⟩
      have HOkR : Hid r.Ok := by rw [hr]; exact cgR_ok (HOk.out j).n0 (HOk.out j).n1 (HOk.out j).t0 (HOk.out j).t1
      have HSj : Hid (hS S0 l (j + 1) = app (hS S0 l j) r) := by rw [hr]; exact HSt.out j c' hc'
      have HHj : Hid (hist all S0 (l.take (j + 1)) = hist all S0 (l.take j) ++ (if appE (hS S0 l j) r = 0 ∨ all = true then [r] else [])) := by rw [hr]; exact HHt.out j c' hc'
      rw [← hr] at HRe'
      have HKf : Hid (∀ W, wr.grownBy W none → W.cell? ⟨rb, off + j * 4, none⟩ = some (.int .i64 c'.k) ∧ W.cell? ⟨rb, off + j * 4 + 1, none⟩ = some (.int .i64 c'.i) ∧ W.cell? ⟨rb, off + j * 4 + 2, none⟩ = some (.int .i64 c'.s) ∧ W.cell? ⟨rb, off + j * 4 + 3, none⟩ = some (.int .i64 c'.t) ∧ W.cell? ⟨d, 5, none⟩ = some (.int .u32 ((hS S0 l j).n : Int)) ∧ W.cell? ⟨d, 6, none⟩ = some (.int .i64 (hS S0 l j).t)) := fun W g => ⟨g.cell k0 (by simp), g.cell k1 (by simp), g.cell k2 (by simp), g.cell k3 (by simp), g.cell d5 (by simp), g.cell d6 (by simp)⟩
      clear hr hdb hc' hj
      unfold rcc at HRe'
      obtain ⟨rk, ri, rs, ru, rc⟩ := r
      obtain ⟨ck, ci, cs, ct⟩ := c'
      simp only at *
      generalize ((hS S0 l j).n : Int) = Sn at *
      generalize (hS S0 l j).t = St at *
      go_wp2
      go_cut [11] from 28 to 40 (fun v W => ∃ B, v = .pointer (some ⟨B, 0, none⟩) ∧ Hid (W.heap[B]? = some (.cells [Value.int .i64 rk, .int .u32 ri, .int .i64 rs, .int .i64 ru, .int .i64 rc].toArray 28 (0, 0)) ∧ wr.grownBy W none))
      case first =>
        have hK0 := HKf.out wr.drew (grown_drew wr none)
        have hKz := HKf.out _ (gn_drew (grown_alloc wr (.cells #[.int .i64 0, .int .u32 0, .int .i64 0, .int .i64 0, .int .i64 0] 28)))
        refine wp_region_held_drew (S := (fun W => W.cell? ⟨rb, off + j * 4, none⟩ = some (.int .i64 ck) ∧ W.cell? ⟨rb, off + j * 4 + 1, none⟩ = some (.int .i64 ci) ∧ W.cell? ⟨rb, off + j * 4 + 2, none⟩ = some (.int .i64 cs) ∧ W.cell? ⟨rb, off + j * 4 + 3, none⟩ = some (.int .i64 ct) ∧ W.cell? ⟨d, 5, none⟩ = some (.int .u32 Sn) ∧ W.cell? ⟨d, 6, none⟩ = some (.int .i64 St))) (by kernel_rfl) ?_ (fun hHeld => ?_)
        · (exact hK0)
        refine tkH (i := 0) (v := ?_) rfl ?_ ?_
        rotate_left
        · (intro w hSw; (try dsimp only at hSw); (go_simp <;> with_reducible rfl))
        try simp only [Act.put, List.setIfInBounds_toArray]
        refine tkH (i := 1) (v := ?_) rfl ?_ ?_
        rotate_left
        · (intro w hSw; (try dsimp only at hSw); (go_simp <;> with_reducible rfl))
        try simp only [Act.put]
        refine tkH (i := 2) (v := ?_) rfl ?_ ?_
        rotate_left
        · (intro w hSw; (try dsimp only at hSw); (go_simp <;> with_reducible rfl))
        try simp only [Act.put]
        refine tkH (i := 3) (v := ?_) rfl ?_ ?_
        rotate_left
        · (intro w hSw; (try dsimp only at hSw); (go_simp <;> with_reducible rfl))
        try simp only [Act.put]
        refine tkH (i := 4) (v := ?_) rfl ?_ ?_
        rotate_left
        · (intro w hSw; (try dsimp only at hSw); (go_simp <;> with_reducible rfl))
        try simp only [Act.put]
        refine tkH (i := 5) (v := ?_) rfl ?_ ?_
        rotate_left
        · (intro w hSw; (try dsimp only at hSw); (go_simp <;> with_reducible rfl))
        try simp only [Act.put]
        refine tkH (i := 6) (v := ?_) rfl ?_ ?_
        rotate_left
        · (intro w hSw; (try dsimp only at hSw); (go_simp <;> with_reducible rfl))
        try simp only [Act.put]
        refine tkH (i := 7) (v := ?_) rfl ?_ ?_
        rotate_left
        · (intro w hSw; (try dsimp only at hSw); (go_simp <;> with_reducible rfl))
        try simp only [Act.put]
        refine tkH (i := 8) (v := ?_) rfl ?_ ?_
        rotate_left
        · (intro w hSw; (try dsimp only at hSw); (go_simp <;> with_reducible rfl))
        try simp only [Act.put]
        refine tkH (i := 9) (v := ?_) rfl ?_ ?_
        rotate_left
        · (intro w hSw; (try dsimp only at hSw); (go_simp <;> with_reducible rfl))
        try simp only [Act.put]
        refine tkH (i := 10) (v := ?_) rfl ?_ ?_
        rotate_left
        · (intro w hSw; (try dsimp only at hSw); (go_simp <;> with_reducible rfl))
        try simp only [Act.put]
        refine tkH (i := 11) (v := ?_) rfl ?_ ?_
        rotate_left
        · (intro w hSw; (try dsimp only at hSw); (go_simp <;> with_reducible rfl))
        try simp only [Act.put]
        refine wpAnyH_ready (rs := [12, 13]) (by kernel_rfl) (by simp) ?_
        refine AllReadyH.cons rfl (fun K hK => ?_) ?_
        · skip
          go_simp
          refine (HRe'.out _).mono ?_
          rintro e w2 ⟨rfl, g2⟩
          have G1 := hide (grown_trans (grown_drew wr none) g2)
          have hK1 := HKf.out w2 G1.out
          have hK2 := HKf.out _ (gn_alloc G1.out (.cells #[.int .i64 0, .int .u32 0, .int .i64 0, .int .i64 0, .int .i64 0] 28))
          have hK3 := HKf.out _ (gn_alloc G1.out (.cells #[.int .i64 rk, .int .u32 ri, .int .i64 rs, .int .i64 ru, .int .i64 rc] 28))
          have HZ := hide (And.intro (heap_alloc_new w2 (.cells #[.int .i64 rk, .int .u32 ri, .int .i64 rs, .int .i64 ru, .int .i64 rc] 28)) (gn_alloc G1.out (.cells #[.int .i64 rk, .int .u32 ri, .int .i64 rs, .int .i64 ru, .int .i64 rc] 28)))
          clear g2
          go_wp2_with fail
          refine hK.out _ _ ?_ (fun hHeld => ?_)
          · ((try dsimp only); first | with_reducible exact hK1 | with_reducible exact hK2 | with_reducible exact hK3 | with_reducible exact hK0 | with_reducible exact hKz | exact hK0 | exact hKz | exact hK1 | exact hK2 | exact hK3)
          clear hK K
          try simp only [Act.put, List.setIfInBounds_toArray, List.set_cons_zero, List.set_cons_succ]
          refine rdH (i := 13) rfl (fun K hK => ?_)
          go_simp
          refine hK.out _ _ ?_ (fun hHeld => ?_)
          · ((try dsimp only); first | with_reducible exact hK1 | with_reducible exact hK2 | with_reducible exact hK3 | with_reducible exact hK0 | with_reducible exact hKz | exact hK0 | exact hKz | exact hK1 | exact hK2 | exact hK3)
          clear hK K
          try simp only [Act.put, List.setIfInBounds_toArray, List.set_cons_zero, List.set_cons_succ]
          refine rdH (i := 14) rfl (fun K hK => ?_)
          go_simp
          refine hK.out _ _ ?_ (fun hHeld => ?_)
          · ((try dsimp only); first | with_reducible exact hK1 | with_reducible exact hK2 | with_reducible exact hK3 | with_reducible exact hK0 | with_reducible exact hKz | exact hK0 | exact hKz | exact hK1 | exact hK2 | exact hK3)
          clear hK K
          try simp only [Act.put, List.setIfInBounds_toArray, List.set_cons_zero, List.set_cons_succ]
          refine wpAnyH_done (by kernel_rfl) ?_ _
          go_wp2
          go_meet
          case rel => exact ⟨_, rfl, HZ.out.1, HZ.out.2⟩
        refine AllReadyH.cons rfl (fun K hK => ?_) ?_
        · skip
          go_simp
          refine hK.out _ _ ?_ (fun hHeld => ?_)
          · ((try dsimp only); first | with_reducible exact hK1 | with_reducible exact hK2 | with_reducible exact hK3 | with_reducible exact hK0 | with_reducible exact hKz | exact hK0 | exact hKz | exact hK1 | exact hK2 | exact hK3)
          clear hK K
          try simp only [Act.put, List.setIfInBounds_toArray, List.set_cons_zero, List.set_cons_succ]
          refine rdH (i := 12) rfl (fun K hK => ?_)
          go_simp
          refine (HRe'.out _).mono ?_
          rintro e w2 ⟨rfl, g2⟩
          have G2 := hide (grown_trans (grown_drew (wr.alloc (.cells #[.int .i64 0, .int .u32 0, .int .i64 0, .int .i64 0, .int .i64 0] 28)) none) g2)
          have hK1 := HKf.out w2 (grown_trans (grown_alloc wr _) G2.out)
          have HQ5 := hide (Rk.set5 (mid_b G2.out) (.int .i64 rk) (.int .u32 ri) (.int .i64 rs) (.int .i64 ru) (.int .i64 rc))
          have G3 := hide (gn_set (gn_set (gn_set (gn_set (gn_set (grown_trans (grown_alloc wr _) G2.out) (Nat.le_refl _) (j := 0) (v := .int .i64 rk)) (Nat.le_refl _) (j := 1) (v := .int .u32 ri)) (Nat.le_refl _) (j := 2) (v := .int .i64 rs)) (Nat.le_refl _) (j := 3) (v := .int .i64 ru)) (Nat.le_refl _) (j := 4) (v := .int .i64 rc))
          have hK2 := HKf.out _ G3.out
          have HZ := hide (And.intro HQ5.out.1 G3.out)
          obtain ⟨y0, y1, y2, y3, y4⟩ := Rk.box5 (mid_b G2.out)
          have z0 := free_row (mid_b G2.out) 0
          have z1 := free_row (mid_b G2.out) 1
          have z2 := free_row (mid_b G2.out) 2
          have z3 := free_row (mid_b G2.out) 3
          have z4 := free_row (mid_b G2.out) 4
          clear g2
          go_wp2_with fail
          refine hK.out _ _ ?_ (fun hHeld => ?_)
          · ((try dsimp only); first | with_reducible exact hK1 | with_reducible exact hK2 | with_reducible exact hK3 | with_reducible exact hK0 | with_reducible exact hKz | exact hK0 | exact hKz | exact hK1 | exact hK2 | exact hK3)
          clear hK K
          try simp only [Act.put, List.setIfInBounds_toArray, List.set_cons_zero, List.set_cons_succ]
          refine rdH (i := 14) rfl (fun K hK => ?_)
          go_simp
          refine hK.out _ _ ?_ (fun hHeld => ?_)
          · ((try dsimp only); first | with_reducible exact hK1 | with_reducible exact hK2 | with_reducible exact hK3 | with_reducible exact hK0 | with_reducible exact hKz | exact hK0 | exact hKz | exact hK1 | exact hK2 | exact hK3)
          clear hK K
          try simp only [Act.put, List.setIfInBounds_toArray, List.set_cons_zero, List.set_cons_succ]
          refine wpAnyH_done (by kernel_rfl) ?_ _
          go_wp2
          go_meet
          case rel => exact ⟨_, rfl, HZ.out.1, HZ.out.2⟩
        exact AllReadyH.nil
      case rest =>
        obtain ⟨B, rfl, HB⟩ := hcut
        have hdw := HD.out.then HB.out.2
        have hA := dapply_any hdw (HOk.out j) ⟨rk, ri, rs, ru, rc⟩ HOkR.out
        obtain ⟨y0, y1, y2, y3, y4⟩ := Rk.box5 HB.out.1
        have HA : Hid (Calls Tryz.prog 43 #[.pointer (some ⟨d, 0, none⟩), .agg #[.int .i64 rk, .int .u32 ri, .int .i64 rs, .int .i64 ru, .int .i64 rc]] wc fun e w' => e = .returned (.int .i64 (appE (hS S0 l j) ⟨rk, ri, rs, ru, rc⟩)) ∧ (∃ v', Db w' w.heap.size d v' (hS S0 l (j + 1))) ∧ w'.ownsRow w.heap.size 28 5 (.slice vq mq cq) (hist all S0 (l.take j)).length (rcs (hist all S0 (l.take j))) ∧ w.grownBy w' none ∧ w'.heap[B]? = some (.cells [Value.int .i64 rk, .int .u32 ri, .int .i64 rs, .int .i64 ru, .int .i64 rc].toArray 28 (0, 0))) := by
          refine hA.mono ?_
          rintro e w' ⟨v', rfl, h1, h2⟩
          have hrow := own_keep HH.out.row HB.out.2
          have hBo : ¬ dbo d vd B := by
            rintro (e | e)
            · have := HB.out.1; rw [e, hdw.head] at this; cases this
            · obtain ⟨-, cur, hc⟩ := Ix.own_block hdw.row e
              rw [HB.out.1] at hc; cases hc
          refine ⟨rfl, ⟨v', by rw [HSj.out]; exact h1⟩, own_kept hrow h2.kept (row_off hdw hrow), kept_grown (grown_trans HH.out.gr HB.out.2) h2.kept (fun i hi => hdw.lows i hi), h2.kept.at HB.out.1 hBo⟩
        have hmq : mq = (hist all S0 (l.take j)).length := slice_n HH.out.row
        have hmj : mq ≤ 1000 := by have := HLe.out j; omega
        clear hdw hA HH HB HD HOkR HSj k0 k1 k2 k3 d5 d6 HKf HRe'
        go_wp2_with fail
        refine HA.out.mono ?_
        rintro e w3 ⟨rfl, hdb3, hrow3, hg3, hB3⟩
        obtain ⟨x0, x1, x2, x3, x4⟩ := Rk.box5 hB3
        have H3 := hide (And.intro hdb3 (And.intro hrow3 hg3))
        have HRow : Hid ((w3.alloc (.cells [Value.int .i64 rk, .int .u32 ri, .int .i64 rs, .int .i64 ru, .int .i64 rc].toArray 28)).ownsRow w.heap.size 28 5 (.slice vq mq cq) mq (rcs (hist all S0 (l.take j))) ∧ (∀ jj u, [Value.int .i64 rk, .int .u32 ri, .int .i64 rs, .int .i64 ru, .int .i64 rc][jj]? = some u → (w3.alloc (.cells [Value.int .i64 rk, .int .u32 ri, .int .i64 rs, .int .i64 ru, .int .i64 rc].toArray 28)).cell? ((⟨w3.heap.size, 0, none⟩ : Addr).add jj) = some u) ∧ w.heap.size ≤ w3.heap.size) := by
          refine ⟨by rw [hmq]; rw [← hmq]; have := hrow3.alloc (.cells [Value.int .i64 rk, .int .u32 ri, .int .i64 rs, .int .i64 ru, .int .i64 rc].toArray 28); rw [← hmq] at this; exact this, fun jj u hu => ?_, hg3.size⟩
          rw [Addr.add_lit, Nat.zero_add, cell_row (heap_alloc_new w3 _)]
          exact hu
        have HOc : Hid (∀ u ∈ [Value.int .i64 rk, .int .u32 ri, .int .i64 rs, .int .i64 ru, .int .i64 rc], u.oneCell' = true) := by
          intro u hu
          simp at hu
          rcases hu with rfl | rfl | rfl | rfl | rfl <;> rfl
        have HAp : Hid (appE (hS S0 l j) ⟨rk, ri, rs, ru, rc⟩ = 0 ∨ all = true → ∀ v' w', w'.ownsRow w.heap.size 28 5 v' (mq + 1) (rcs (hist all S0 (l.take j)) ++ [Value.int .i64 rk, .int .u32 ri, .int .i64 rs, .int .i64 ru, .int .i64 rc]) → (w3.alloc (.cells [Value.int .i64 rk, .int .u32 ri, .int .i64 rs, .int .i64 ru, .int .i64 rc].toArray 28)).grownBy w' (Value.slice vq mq cq).ownBlock → HiS w w' d S0 l all (j + 1) v') := by
          intro hy v' w' hov hg
          obtain ⟨⟨v3, hd3⟩, hr3, hg3⟩ := H3.out
          have k : Kept w3 w' (fun i => (Value.slice vq mq cq).ownBlock = some i) := (Kept.new (grown_alloc w3 _) _).trans (Kept.of hg (S := fun i => (Value.slice vq mq cq).ownBlock = some i) (fun j e _ => e)) (fun _ _ e => e)
          have hge : ∀ i, (Value.slice vq mq cq).ownBlock = some i → w.heap.size ≤ i := fun i hi => (Ix.own_block hr3 hi).1
          have hof := row_off hd3 hr3
          refine ⟨⟨v3, hd3.far k (fun i hi e => hof i e hi)⟩, ?_, kept_grown hg3 k hge⟩
          rw [HHj.out, if_pos hy, List.length_append, ← hmq, rcs_snoc]
          exact hov
        have HNo : Hid (¬ (appE (hS S0 l j) ⟨rk, ri, rs, ru, rc⟩ = 0 ∨ all = true) → HiS w w3 d S0 l all (j + 1) (.slice vq mq cq)) := by
          intro hn
          refine ⟨H3.out.1, ?_, H3.out.2.2⟩
          rw [HHj.out, if_neg hn, List.append_nil]
          exact H3.out.2.1
        have HMq := hide hmj
        clear hdb3 hrow3 hg3 hB3 HA HHj H3 hmq hmj y0 y1 y2 y3 y4
        generalize rcs (hist all S0 (l.take j)) = Lt at *
        generalize appE (hS S0 l j) ⟨rk, ri, rs, ru, rc⟩ = er at *
        by_cases he : er = 0
        · subst he
          have HAp2 := hide (HAp.out (.inl rfl))
          clear HNo HAp
          go_wp2_with (at_builtin; refine wpList_append_own _ rfl (.tmp 49) (.tmp 51) 100 rfl w.heap.size 28 i0 (.agg #[.int .i64 0, .int .u32 0, .int .i64 0, .int .i64 0, .int .i64 0]) 5 40 Tryz.underlying100 HI0.out.1 HI0.out.2.1 HI0.out.2.2.1 HI0.out.2.2.2 rfl (by decide) (.slice vq mq cq) mq Lt rfl HRow.out.1 ⟨w3.heap.size, 0, none⟩ 1 1 [.int .i64 rk, .int .u32 ri, .int .i64 rs, .int .i64 ru, .int .i64 rc] rfl rfl HRow.out.2.1 HOc.out (by have := HMq.out; unfold maxLen; omega) (by have := HMq.out; omega) (by have := HRow.out.2.2; simp; omega) ?_)
          intro v' w' hov hg hv
          clear hv
          obtain ⟨vo', vc', rfl, -⟩ := Ix.own_form hov
          have HN := hide (HAp2.out _ _ hov hg)
          clear hov hg
          go_wp2
          go_roundg (gk - 1)
          case measure => omega
          case rel => exact ⟨j + 1, vo', mq + 1, vc', by omega, by go_num, rfl, HN.out⟩
        · have f1 : (er == 0) = false := by simpa using he
          have f2 : decide (er = 0) = false := by simpa using he
          cases all with
          | true =>
            have HAp2 := hide (HAp.out (.inr rfl))
            clear HNo he HAp
            go_wp2_with (at_builtin; refine wpList_append_own _ rfl (.tmp 49) (.tmp 51) 100 rfl w.heap.size 28 i0 (.agg #[.int .i64 0, .int .u32 0, .int .i64 0, .int .i64 0, .int .i64 0]) 5 40 Tryz.underlying100 HI0.out.1 HI0.out.2.1 HI0.out.2.2.1 HI0.out.2.2.2 rfl (by decide) (.slice vq mq cq) mq Lt rfl HRow.out.1 ⟨w3.heap.size, 0, none⟩ 1 1 [.int .i64 rk, .int .u32 ri, .int .i64 rs, .int .i64 ru, .int .i64 rc] rfl rfl HRow.out.2.1 HOc.out (by have := HMq.out; unfold maxLen; omega) (by have := HMq.out; omega) (by have := HRow.out.2.2; simp; omega) ?_)
            intro v' w' hov hg hv
            clear hv
            obtain ⟨vo', vc', rfl, -⟩ := Ix.own_form hov
            have HN := hide (HAp2.out _ _ hov hg)
            clear hov hg
            go_wp2
            go_roundg (gk - 1)
            case measure => omega
            case rel => exact ⟨j + 1, vo', mq + 1, vc', by omega, by go_num, rfl, HN.out⟩
          | false =>
            have HN := hide (HNo.out (fun e => e.elim he (fun e => by cases e)))
            clear HNo HAp he HRow HOc
            go_wp2
            go_roundg (gk - 1)
            case measure => omega
            case rel => exact ⟨j + 1, vq, mq, cq, by omega, by go_num, rfl, HN.out⟩
    · have hj : j = l.length := by omega
      have HF := HH.out
      rw [hj] at HF
      have hrow := HF.row
      rw [HAll.out] at hrow
      have hmq : mq = (hist all S0 l).length := slice_n hrow
      have HX := hide (And.intro hrow HF.gr)
      clear HF hrow HH
      subst hj
      subst hmq
      go_wp2
      go_ret
      exact ⟨vq, cq, rfl, HX.out⟩
end Go.Proofs.YtjfhilignbeboaaGreatDoor
namespace Go.Proofs.YtjfhilignbeboaaGreatDoor
/- An argument that is a slice of changes. -/
open Go.ChangeShapes Go.WideShapes Go.ChangeAt Go.RowKit Go.Deep
section
variable {H : Type} {enc : TypeId × Value → H}
theorem cellsOf73 : Tryz.prog.cellsOf 152 = 4 := by kernel_rfl
theorem open_cg {w : World} {base n : Nat} {spare : Nat → Bool} {held : Bool} {a : Addr} {cs : List Value} {x : DataW H × List MemPlace} (hc : w.cells? base a 4 = some cs) (h : DataW.trod enc Tryz.prog w base spare held n 152 cs = some x) :
    ∃ r : Cg, a = ⟨a.block, a.off, none⟩ ∧ w.cell? ⟨a.block, a.off, none⟩ = some (.int .i64 r.k) ∧ w.cell? ⟨a.block, a.off + 1, none⟩ = some (.int .i64 r.i) ∧ w.cell? ⟨a.block, a.off + 2, none⟩ = some (.int .i64 r.s) ∧ w.cell? ⟨a.block, a.off + 3, none⟩ = some (.int .i64 r.t) := by
  obtain ⟨_, hlen, hcell⟩ := World.cells?_some hc
  obtain ⟨xs, n, _, rfl, hl, hsz, hf⟩ := DataW.trod_struct Tryz.underlying152 h
  obtain ⟨v0, v1, v2, v3, rfl⟩ := listOf4 hlen
  obtain ⟨y0, y1, y2, y3, rfl⟩ := listOf4 (show xs.length = 4 from hsz)
  clear hl hsz
  have f0 : DataW.trod enc Tryz.prog w base spare held n 3 [v0] = some y0 := by simpa [cellsOf3] using hf 0 _ rfl
  have f1 : DataW.trod enc Tryz.prog w base spare held n 3 [v1] = some y1 := by simpa [cellsOf3] using hf 1 _ rfl
  have f2 : DataW.trod enc Tryz.prog w base spare held n 3 [v2] = some y2 := by simpa [cellsOf3] using hf 2 _ rfl
  have f3 : DataW.trod enc Tryz.prog w base spare held n 3 [v3] = some y3 := by simpa [cellsOf3] using hf 3 _ rfl
  obtain ⟨b0, e0, rfl, wa⟩ := DataW.trod_int Tryz.underlying3 f0
  obtain ⟨b1, e1, rfl, wb⟩ := DataW.trod_int Tryz.underlying3 f1
  obtain ⟨b2, e2, rfl, wc⟩ := DataW.trod_int Tryz.underlying3 f2
  obtain ⟨b3, e3, rfl, wd⟩ := DataW.trod_int Tryz.underlying3 f3
  simp only [List.cons.injEq, and_true] at e0 e1 e2 e3
  subst e0 e1 e2 e3
  have g0 := hcell 0 (by omega)
  have ha : a = ⟨a.block, a.off, none⟩ := by
    have h1 : w.cell? a = some (.int .i64 b0) := by simpa [Addr.add] using g0
    have h2 : a.spot = none := by
      unfold World.cell? at h1
      split at h1
      · split at h1
        · cases h1
        · rename_i hs; simpa using hs
      · cases h1
    cases a; simp_all
  rw [ha] at hcell
  refine ⟨⟨b0, b1, b2, b3⟩, ha, ?_, ?_, ?_, ?_⟩
  · simpa [Addr.add_lit] using hcell 0 (by omega)
  · simpa [Addr.add_lit] using hcell 1 (by omega)
  · simpa [Addr.add_lit] using hcell 2 (by omega)
  · simpa [Addr.add_lit] using hcell 3 (by omega)
theorem open_cgsB {w : World} {base len n : Nat} {spare : Nat → Bool} {held : Bool} {a : Addr} {D : Nat → DataW H} {Pl : Nat → List MemPlace}
    (h : ∀ i, i < len → ∃ cs', w.cells? base (a.add (i * 4)) 4 = some cs' ∧ DataW.trod enc Tryz.prog w base spare held n 152 cs' = some (D i, Pl i)) :
    ∃ os : List Cg, os.length = len ∧ CgsAt w (some a) os := by
  have hex : ∀ i, i < len → ∃ r : Cg, ∃ blk off, some a = some (⟨blk, off, none⟩ : Addr) ∧ w.cell? ⟨blk, off + i * 4, none⟩ = some (.int .i64 r.k) ∧ w.cell? ⟨blk, off + i * 4 + 1, none⟩ = some (.int .i64 r.i) ∧ w.cell? ⟨blk, off + i * 4 + 2, none⟩ = some (.int .i64 r.s) ∧ w.cell? ⟨blk, off + i * 4 + 3, none⟩ = some (.int .i64 r.t) := by
    intro i hi
    obtain ⟨cs', hc, ht⟩ := h i hi
    obtain ⟨o, _, h1, h2, h3, h4⟩ := open_cg hc ht
    have ha : a = ⟨a.block, a.off, none⟩ := by
      obtain ⟨cs0, hc0, ht0⟩ := h 0 (by omega)
      obtain ⟨_, he, _⟩ := open_cg hc0 ht0
      simpa [Addr.add] using he
    have e1 : (a.add (i * 4)).block = a.block := by unfold Addr.add; split <;> rfl
    have e2 : (a.add (i * 4)).off = a.off + i * 4 := by rw [ha, Addr.add_lit]
    rw [e1, e2] at h1 h2 h3 h4
    exact ⟨o, a.block, a.off, by rw [← ha], h1, h2, h3, h4⟩
  clear h
  induction len with
  | zero => exact ⟨[], rfl, (fun j o h => by simp at h)⟩
  | succ k ih =>
    obtain ⟨os, h1, h2⟩ := ih (fun i hi => hex i (by omega))
    obtain ⟨o, g1⟩ := hex k (by omega)
    refine ⟨os ++ [o], by simp [h1], ?_⟩
    intro j o' hj
    by_cases hjk : j < os.length
    · rw [List.getElem?_append_left hjk] at hj; exact h2 j o' hj
    · have hlt := (List.getElem?_eq_some_iff.1 hj).1
      have hjk2 : j = k := by simp at hlt; omega
      subst hjk2
      rw [List.getElem?_append_right (by omega), h1, Nat.sub_self] at hj
      simp at hj
      subst hj
      exact g1
end
end Go.Proofs.YtjfhilignbeboaaGreatDoor
/- The document's requests: what a kind has, Check, a part's number, bytes as a text. -/
namespace Go.Proofs.YtjfhilignbeboaaGreatDoor.Rs
open Go.RowKit
attribute [local go_sem ↓] Go.wp_at_zero Go.wp_at_succ
theorem rhas_any (k : Int) (w : World) : Calls Tryz.prog 58 #[.int .i64 k] w fun e w' => e = .returned (.tuple #[.bool (hI k), .bool (hS k), .bool (hL k)]) ∧ w' = w := by
  by_cases h1 : k = 1
  · subst h1
    go_enter Tryz.func58, Tryz.ntmps58
    go_wp2
    go_ret3
    exact ⟨rfl, rfl⟩
  by_cases h2 : k = 2
  · subst h2
    go_enter Tryz.func58, Tryz.ntmps58
    go_wp2
    go_ret3
    exact ⟨rfl, rfl⟩
  by_cases h3 : k = 3
  · subst h3
    go_enter Tryz.func58, Tryz.ntmps58
    go_wp2
    go_ret3
    exact ⟨rfl, rfl⟩
  by_cases h5 : k = 5
  · subst h5
    go_enter Tryz.func58, Tryz.ntmps58
    go_wp2
    go_ret3
    exact ⟨rfl, rfl⟩
  by_cases h4 : k = 4
  · subst h4
    go_enter Tryz.func58, Tryz.ntmps58
    go_wp2
    go_ret3
    exact ⟨rfl, rfl⟩
  by_cases h6 : k = 6
  · subst h6
    go_enter Tryz.func58, Tryz.ntmps58
    go_wp2
    go_ret3
    exact ⟨rfl, rfl⟩
  by_cases h7 : k = 7
  · subst h7
    go_enter Tryz.func58, Tryz.ntmps58
    go_wp2
    go_ret3
    exact ⟨rfl, rfl⟩
  rw [show hI k = false from decide_eq_false (by omega), show hS k = false from decide_eq_false (by omega), show hL k = false from decide_eq_false (by omega)]
  have a1 : (k == 1) = false := by simpa using h1
  have b1 : decide (k = 1) = false := by simpa using h1
  have a2 : (k == 2) = false := by simpa using h2
  have b2 : decide (k = 2) = false := by simpa using h2
  have a3 : (k == 3) = false := by simpa using h3
  have b3 : decide (k = 3) = false := by simpa using h3
  have a5 : (k == 5) = false := by simpa using h5
  have b5 : decide (k = 5) = false := by simpa using h5
  have a4 : (k == 4) = false := by simpa using h4
  have b4 : decide (k = 4) = false := by simpa using h4
  have a6 : (k == 6) = false := by simpa using h6
  have b6 : decide (k = 6) = false := by simpa using h6
  have a7 : (k == 7) = false := by simpa using h7
  have b7 : decide (k = 7) = false := by simpa using h7
  go_enter Tryz.func58, Tryz.ntmps58
  go_wp2
  go_ret3
  exact ⟨rfl, rfl⟩
theorem may_iff {q : Rq} (ho : q.Ok) : q.May ↔ (1 ≤ q.k ∧ q.k ≤ 10) ∧ (0 ≤ q.s ∧ q.s ≤ 65535) ∧ 0 ≤ q.u ∧ (hI q.k = false → q.i = 0) ∧ (hS q.k = false → q.s = 0) ∧ (hL q.k = false → q.u = 0) := by
  constructor
  · intro h
    obtain ⟨a, b, c, d⟩ := may_nums h
    exact ⟨a, ⟨c.1, c.2.1⟩, d.1, b.2.2, c.2.2, d.2.2⟩
  · rintro ⟨a, b, c, d, e, f⟩
    have i0 := ho.i0
    have i1 := ho.i1
    have u1 := ho.u1
    unfold Rq.May Rq.mayB
    simp only [Bool.and_eq_true, decide_eq_true_eq]
    refine ⟨a, ?_, ?_, ?_⟩
    · unfold inP
      cases hh : hI q.k with
      | false => rw [if_neg (by decide)]; exact decide_eq_true (d hh)
      | true => rw [if_pos rfl]; exact decide_eq_true ⟨i0, by omega⟩
    · unfold inP
      cases hh : hS q.k with
      | false => rw [if_neg (by decide)]; exact decide_eq_true (e hh)
      | true => rw [if_pos rfl]; exact decide_eq_true b
    · unfold inP
      cases hh : hL q.k with
      | false => rw [if_neg (by decide)]; exact decide_eq_true (f hh)
      | true => rw [if_pos rfl]; exact decide_eq_true ⟨c, u1⟩
set_option maxRecDepth 20000 in
set_option maxHeartbeats 8000000 in
theorem rcheck_any (q : Rq) (ho : q.Ok) (w : World) : Calls Tryz.prog 47 #[rqV q] w fun e w' => e = .returned (.int .i64 (chk q)) ∧ w.grownBy w' none := by
  obtain ⟨res, hres⟩ : ∃ res, res = chk q := ⟨_, rfl⟩
  rw [← hres]
  have HR := hide hres
  have HM := hide (may_iff ho)
  have H0 : Hid (¬ q.May → res = 200) := fun h => by rw [HR.out]; exact if_neg h
  have H1 : Hid (q.May → res = 0) := fun h => by rw [HR.out]; exact if_pos h
  clear hres ho
  have S0 := hide (CkS.begin w q)
  have qh := rhas_any q.k
  generalize hI q.k = bI at *
  generalize hS q.k = bS at *
  generalize hL q.k = bL at *
  unfold rqV
  obtain ⟨c0, c1, c2, c3, c4⟩ := box5 S0.out.box
  go_enter Tryz.func47, Tryz.ntmps47
  go_wp2_with fail
  generalize w.alloc (.cells #[.int .i64 q.k, .int .u32 q.t, .int .u32 q.i, .int .i64 q.s, .int .i64 q.u] 25) = w1 at *
  refine (qh w1).mono ?_
  clear qh
  rintro e wx ⟨rfl, hw⟩
  obtain rfl := hw.symm
  clear hw
  by_cases k1 : q.k < 1
  · have z0 : decide (q.k < 1) = true := decide_eq_true k1
    have HZ : Hid (res = 200) := H0.out (fun h => by have hh := HM.out.1 h; omega)
    go_wp2
    go_ret
    exact ⟨by rw [HZ.out]; rfl, S0.out.gr⟩
  have k1f : decide (q.k < 1) = false := decide_eq_false k1
  by_cases k2 : 10 < q.k
  · have z0 : decide (10 < q.k) = true := decide_eq_true k2
    have HZ : Hid (res = 200) := H0.out (fun h => by have hh := HM.out.1 h; omega)
    go_wp2
    go_ret
    exact ⟨by rw [HZ.out]; rfl, S0.out.gr⟩
  have k2f : decide (10 < q.k) = false := decide_eq_false k2
  by_cases s1 : q.s < 0
  · have z0 : decide (q.s < 0) = true := decide_eq_true s1
    have HZ : Hid (res = 200) := H0.out (fun h => by have hh := HM.out.1 h; omega)
    go_wp2
    go_ret
    exact ⟨by rw [HZ.out]; rfl, S0.out.gr⟩
  have s1f : decide (q.s < 0) = false := decide_eq_false s1
  by_cases s2 : 65535 < q.s
  · have z0 : decide (65535 < q.s) = true := decide_eq_true s2
    have HZ : Hid (res = 200) := H0.out (fun h => by have hh := HM.out.1 h; omega)
    go_wp2
    go_ret
    exact ⟨by rw [HZ.out]; rfl, S0.out.gr⟩
  have s2f : decide (65535 < q.s) = false := decide_eq_false s2
  by_cases u1 : q.u < 0
  · have z0 : decide (q.u < 0) = true := decide_eq_true u1
    have HZ : Hid (res = 200) := H0.out (fun h => by have hh := HM.out.1 h; omega)
    go_wp2
    go_ret
    exact ⟨by rw [HZ.out]; rfl, S0.out.gr⟩
  have u1f : decide (q.u < 0) = false := decide_eq_false u1
  have HK := hide (And.intro k1 (And.intro k2 (And.intro s1 (And.intro s2 u1))))
  clear k1 k2 s1 s2 u1
  cases bI with
  | true =>
    cases bS with
    | true =>
      cases bL with
      | true =>
        have HZ : Hid (res = 0) := H1.out (HM.out.2 ⟨by have := HK.out; omega, by have := HK.out; omega, by have := HK.out; omega, (fun e => by cases e), (fun e => by cases e), (fun e => by cases e)⟩)
        skip
        go_wp2
        go_ret
        exact ⟨by rw [HZ.out]; rfl, S0.out.gr⟩
      | false =>
        by_cases zu : q.u = 0
        · have xu : (q.u == 0) = true := by simpa using zu
          have yu : (q.u != 0) = false := by simpa using zu
          have vu : decide (q.u = 0) = true := decide_eq_true zu
          have HZ : Hid (res = 0) := H1.out (HM.out.2 ⟨by have := HK.out; omega, by have := HK.out; omega, by have := HK.out; omega, (fun e => by cases e), (fun e => by cases e), (fun _ => zu)⟩)
          skip; clear zu
          go_wp2
          go_ret
          exact ⟨by rw [HZ.out]; rfl, S0.out.gr⟩
        · have xu : (q.u == 0) = false := by simpa using zu
          have yu : (q.u != 0) = true := by simpa using zu
          have vu : decide (q.u = 0) = false := decide_eq_false zu
          have HZ : Hid (res = 200) := H0.out (fun h => by have hh := HM.out.1 h; exact zu (hh.2.2.2.2.2 rfl))
          clear zu
          go_wp2
          go_ret
          exact ⟨by rw [HZ.out]; rfl, S0.out.gr⟩
    | false =>
      by_cases zs : q.s = 0
      · have xs : (q.s == 0) = true := by simpa using zs
        have ys : (q.s != 0) = false := by simpa using zs
        have vs : decide (q.s = 0) = true := decide_eq_true zs
        cases bL with
        | true =>
          have HZ : Hid (res = 0) := H1.out (HM.out.2 ⟨by have := HK.out; omega, by have := HK.out; omega, by have := HK.out; omega, (fun e => by cases e), (fun _ => zs), (fun e => by cases e)⟩)
          skip; clear zs
          go_wp2
          go_ret
          exact ⟨by rw [HZ.out]; rfl, S0.out.gr⟩
        | false =>
          by_cases zu : q.u = 0
          · have xu : (q.u == 0) = true := by simpa using zu
            have yu : (q.u != 0) = false := by simpa using zu
            have vu : decide (q.u = 0) = true := decide_eq_true zu
            have HZ : Hid (res = 0) := H1.out (HM.out.2 ⟨by have := HK.out; omega, by have := HK.out; omega, by have := HK.out; omega, (fun e => by cases e), (fun _ => zs), (fun _ => zu)⟩)
            skip; clear zs; clear zu
            go_wp2
            go_ret
            exact ⟨by rw [HZ.out]; rfl, S0.out.gr⟩
          · have xu : (q.u == 0) = false := by simpa using zu
            have yu : (q.u != 0) = true := by simpa using zu
            have vu : decide (q.u = 0) = false := decide_eq_false zu
            have HZ : Hid (res = 200) := H0.out (fun h => by have hh := HM.out.1 h; exact zu (hh.2.2.2.2.2 rfl))
            clear zu zs
            go_wp2
            go_ret
            exact ⟨by rw [HZ.out]; rfl, S0.out.gr⟩
      · have xs : (q.s == 0) = false := by simpa using zs
        have ys : (q.s != 0) = true := by simpa using zs
        have vs : decide (q.s = 0) = false := decide_eq_false zs
        have HZ : Hid (res = 200) := H0.out (fun h => by have hh := HM.out.1 h; exact zs (hh.2.2.2.2.1 rfl))
        clear zs
        go_wp2
        go_ret
        exact ⟨by rw [HZ.out]; rfl, S0.out.gr⟩
  | false =>
    by_cases zi : q.i = 0
    · have xi : (q.i == 0) = true := by simpa using zi
      have yi : (q.i != 0) = false := by simpa using zi
      have vi : decide (q.i = 0) = true := decide_eq_true zi
      cases bS with
      | true =>
        cases bL with
        | true =>
          have HZ : Hid (res = 0) := H1.out (HM.out.2 ⟨by have := HK.out; omega, by have := HK.out; omega, by have := HK.out; omega, (fun _ => zi), (fun e => by cases e), (fun e => by cases e)⟩)
          skip; clear zi
          go_wp2
          go_ret
          exact ⟨by rw [HZ.out]; rfl, S0.out.gr⟩
        | false =>
          by_cases zu : q.u = 0
          · have xu : (q.u == 0) = true := by simpa using zu
            have yu : (q.u != 0) = false := by simpa using zu
            have vu : decide (q.u = 0) = true := decide_eq_true zu
            have HZ : Hid (res = 0) := H1.out (HM.out.2 ⟨by have := HK.out; omega, by have := HK.out; omega, by have := HK.out; omega, (fun _ => zi), (fun e => by cases e), (fun _ => zu)⟩)
            skip; clear zi; clear zu
            go_wp2
            go_ret
            exact ⟨by rw [HZ.out]; rfl, S0.out.gr⟩
          · have xu : (q.u == 0) = false := by simpa using zu
            have yu : (q.u != 0) = true := by simpa using zu
            have vu : decide (q.u = 0) = false := decide_eq_false zu
            have HZ : Hid (res = 200) := H0.out (fun h => by have hh := HM.out.1 h; exact zu (hh.2.2.2.2.2 rfl))
            clear zu zi
            go_wp2
            go_ret
            exact ⟨by rw [HZ.out]; rfl, S0.out.gr⟩
      | false =>
        by_cases zs : q.s = 0
        · have xs : (q.s == 0) = true := by simpa using zs
          have ys : (q.s != 0) = false := by simpa using zs
          have vs : decide (q.s = 0) = true := decide_eq_true zs
          cases bL with
          | true =>
            have HZ : Hid (res = 0) := H1.out (HM.out.2 ⟨by have := HK.out; omega, by have := HK.out; omega, by have := HK.out; omega, (fun _ => zi), (fun _ => zs), (fun e => by cases e)⟩)
            skip; clear zi; clear zs
            go_wp2
            go_ret
            exact ⟨by rw [HZ.out]; rfl, S0.out.gr⟩
          | false =>
            by_cases zu : q.u = 0
            · have xu : (q.u == 0) = true := by simpa using zu
              have yu : (q.u != 0) = false := by simpa using zu
              have vu : decide (q.u = 0) = true := decide_eq_true zu
              have HZ : Hid (res = 0) := H1.out (HM.out.2 ⟨by have := HK.out; omega, by have := HK.out; omega, by have := HK.out; omega, (fun _ => zi), (fun _ => zs), (fun _ => zu)⟩)
              skip; clear zi; clear zs; clear zu
              go_wp2
              go_ret
              exact ⟨by rw [HZ.out]; rfl, S0.out.gr⟩
            · have xu : (q.u == 0) = false := by simpa using zu
              have yu : (q.u != 0) = true := by simpa using zu
              have vu : decide (q.u = 0) = false := decide_eq_false zu
              have HZ : Hid (res = 200) := H0.out (fun h => by have hh := HM.out.1 h; exact zu (hh.2.2.2.2.2 rfl))
              clear zu zi zs
              go_wp2
              go_ret
              exact ⟨by rw [HZ.out]; rfl, S0.out.gr⟩
        · have xs : (q.s == 0) = false := by simpa using zs
          have ys : (q.s != 0) = true := by simpa using zs
          have vs : decide (q.s = 0) = false := decide_eq_false zs
          have HZ : Hid (res = 200) := H0.out (fun h => by have hh := HM.out.1 h; exact zs (hh.2.2.2.2.1 rfl))
          clear zs zi
          go_wp2
          go_ret
          exact ⟨by rw [HZ.out]; rfl, S0.out.gr⟩
    · have xi : (q.i == 0) = false := by simpa using zi
      have yi : (q.i != 0) = true := by simpa using zi
      have vi : decide (q.i = 0) = false := decide_eq_false zi
      have HZ : Hid (res = 200) := H0.out (fun h => by have hh := HM.out.1 h; exact zi (hh.2.2.2.1 rfl))
      clear zi
      go_wp2
      go_ret
      exact ⟨by rw [HZ.out]; rfl, S0.out.gr⟩
end Go.Proofs.YtjfhilignbeboaaGreatDoor.Rs
namespace Go.Proofs.YtjfhilignbeboaaGreatDoor
/- Requests out of plain numbers. -/
open Go.RowKit
attribute [local go_sem ↓] Go.wp_at_zero Go.wp_at_succ
attribute [local go_sem] Oper.semAt_some
/-- A request by plain numbers: kind, id, seat, ttl, tag. -/
structure Ak where
  k : Int
  i : Int
  s : Int
  u : Int
  t : Int
def akV (a : Ak) : Value := .agg #[.int .i64 a.k, .int .i64 a.i, .int .i64 a.s, .int .i64 a.u, .int .u32 a.t]
def akQ (a : Ak) : Rs.Rq := ⟨1 + a.k % 10, a.t, if Rs.hI (1 + a.k % 10) then a.i % 12 else 0, if Rs.hS (1 + a.k % 10) then a.s % 14 else 0, if Rs.hL (1 + a.k % 10) then a.u % 9 else 0⟩
theorem akQ_ok (a : Ak) (h0 : 0 ≤ a.t) (h1 : a.t < 4294967296) : (akQ a).Ok := by
  unfold akQ
  refine ⟨?_, ?_, h0, h1, ?_, ?_, ?_, ?_, ?_, ?_⟩
  all_goals simp only
  all_goals first | omega | (split <;> omega)
end Go.Proofs.YtjfhilignbeboaaGreatDoor
