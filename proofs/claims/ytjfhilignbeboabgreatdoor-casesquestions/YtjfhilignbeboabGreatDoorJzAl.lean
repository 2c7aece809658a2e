/- Texts joined: Hy3, Qx, Qa, Qb, Qc, Yx. -/
import Derived.Test.YtjfhilignbeboabGreatDoorJzAc
import Derived.Test.YtjfhilignbeboabGreatDoorJzAk
import Derived.Test.YtjfhilignbeboabGreatDoorChecked
import Derived.Laws.ResultCell
import Derived.Laws.EntriesVeiled
import Derived.LoopN
import Derived.Test.YtjfhilignbeboabGreatDoorJzAa
namespace Go.Proofs.YtjfhilignbeboabGreatDoor
/- Histories. -/
open Go.RowKit
attribute [local go_sem ↓] Go.wp_at_zero Go.wp_at_succ
attribute [local go_sem] Oper.semAt_some
/-- Changes that lie somewhere. -/
def CgsAt (w : World) (ao : Option Addr) (l : List Cg) : Prop := ∀ j c, l[j]? = some c → ∃ blk off, ao = some (⟨blk, off, none⟩ : Addr) ∧ w.cell? ⟨blk, off + j * 4, none⟩ = some (.int .i64 c.k) ∧ w.cell? ⟨blk, off + j * 4 + 1, none⟩ = some (.int .i64 c.i) ∧ w.cell? ⟨blk, off + j * 4 + 2, none⟩ = some (.int .i64 c.s) ∧ w.cell? ⟨blk, off + j * 4 + 3, none⟩ = some (.int .i64 c.t)
theorem CgsAt.grown {w w' : World} {ao : Option Addr} {l : List Cg} (h : CgsAt w ao l) (g : w.grownBy w' none) : CgsAt w' ao l := by
  intro j o hj
  obtain ⟨b, off, e, h1, h2, h3, h4⟩ := h j o hj
  exact ⟨b, off, e, g.cell h1 (by simp), g.cell h2 (by simp), g.cell h3 (by simp), g.cell h4 (by simp)⟩
theorem CgsAt.take {w : World} {ao : Option Addr} {l : List Cg} (h : CgsAt w ao l) (n : Nat) : CgsAt w ao (l.take n) := fun j c hj => by
  refine h j c ?_
  rw [List.getElem?_take] at hj
  split at hj
  · exact hj
  · cases hj
/-- Inside History, behind j changes. -/
structure HiS (w wr : World) (d : Nat) (S0 : Sb) (l : List Cg) (all : Bool) (j : Nat) (q : Value) : Prop where
  db : ∃ v, Db wr w.heap.size d v (hS S0 l j)
  row : wr.ownsRow w.heap.size 56 5 q (hist all S0 (l.take j)).length (rcs (hist all S0 (l.take j)))
  gr : w.grownBy wr none
theorem HiS.then {w wr wr' : World} {d : Nat} {S0 : Sb} {l : List Cg} {all : Bool} {j : Nat} {q : Value} (h : HiS w wr d S0 l all j q) (g : wr.grownBy wr' none) : HiS w wr' d S0 l all j q := by
  obtain ⟨v, h1⟩ := h.db
  exact ⟨⟨v, h1.then g⟩, own_keep h.row g, grown_trans h.gr g⟩
/-- A row of records lies off the document's book. -/
theorem row_off {w : World} {lo d b n : Nat} {v q : Value} {S : Sb} {xs : List Value} (h : Db w lo d v S) (hr : w.ownsRow b 56 5 q n xs) : ∀ i, q.ownBlock = some i → ¬ dbo d v i := by
  rintro i hi (e | e)
  · obtain ⟨-, cur, hc⟩ := Ix.own_block hr hi
    rw [e, h.head] at hc
    cases hc
  · obtain ⟨-, cur, hc⟩ := Ix.own_block hr hi
    obtain ⟨-, cur', hc'⟩ := Ix.own_block h.row e
    rw [hc] at hc'
    cases hc'
def zrc : List Value := [.int .i64 0, .int .u32 0, .int .i64 0, .int .i64 0, .int .i64 0]
theorem mid_b {wr w1 : World} (g : (wr.alloc (.cells zrc.toArray 56)).grownBy w1 none) : w1.heap[wr.heap.size]? = some (.cells zrc.toArray 56 (0, 0)) := (g.block _ (row_lt (heap_alloc_new wr _)) (by simp)).trans (heap_alloc_new wr _)
set_option maxRecDepth 20000 in
set_option maxHeartbeats 16000000 in
theorem hist_any {w : World} {a b c : Nat} (ho : Gx.OkS a b c) {ao : Option Addr} {cap : Nat} {l : List Cg} (hl : l.length ≤ 1000) (hC : CgsAt w ao l) (all : Bool) : Calls Tryz.prog 11 #[limV a b c, .slice ao l.length cap, .bool all] w fun e w' => ∃ so c2, e = .returned (.slice so (hist all (nS a b c) l).length c2) ∧ w'.ownsRow w.heap.size 56 5 (.slice so (hist all (nS a b c) l).length c2) (hist all (nS a b c) l).length (rcs (hist all (nS a b c) l)) ∧ w.grownBy w' none := by
  have b0 := grown_alloc w (.cells [Value.int .i64 (a : Int), .int .i64 (b : Int), .int .i64 (c : Int)].toArray 44)
  have HN : Hid (Calls Tryz.prog 10 #[.agg #[.int .i64 (a : Int), .int .i64 (b : Int), .int .i64 (c : Int)]] (w.alloc (.cells [Value.int .i64 (a : Int), .int .i64 (b : Int), .int .i64 (c : Int)].toArray 44)) fun e w' => ∃ d, e = .returned (.tuple #[.pointer (some ⟨d, 0, none⟩), .int .i64 0]) ∧ HiS w w' d (nS a b c) l all 0 (.slice none 0 0)) := by
    refine (dnew_any ho _).mono ?_
    rintro e w' ⟨d, rfl, h1, h2⟩
    exact ⟨d, rfl, ⟨_, h1.head, own_base h1.row b0.size, Nat.le_trans b0.size h1.ge⟩, World.ownsRow_nil _ _ _ _, grown_trans b0 h2⟩
  have HOk : Hid (∀ j, (hS (nS a b c) l j).Ok) := fun j => hS_ok (nS_ok ho) l j
  have HRe : Hid (∀ (c' : Cg) j (W : World), Calls Tryz.prog 26 #[.agg #[.int .i64 c'.k, .int .i64 c'.i, .int .i64 c'.s, .int .i64 c'.t], .int .u32 ((hS (nS a b c) l j).n : Int), .int .i64 (hS (nS a b c) l j).t] W fun e w' => e = .returned (.agg (rcc (cgR c' (hS (nS a b c) l j).n (hS (nS a b c) l j).t)).toArray) ∧ W.grownBy w' none) := fun c' j W => mrec_any c' _ _ (HOk.out j).n0 (HOk.out j).n1 (HOk.out j).t0 (HOk.out j).t1 W
  have HSt : Hid (∀ j c', l[j]? = some c' → hS (nS a b c) l (j + 1) = app (hS (nS a b c) l j) (cgR c' (hS (nS a b c) l j).n (hS (nS a b c) l j).t)) := fun j c' h => hS_succ h
  have HHt : Hid (∀ j c', l[j]? = some c' → hist all (nS a b c) (l.take (j + 1)) = hist all (nS a b c) (l.take j) ++ (if appE (hS (nS a b c) l j) (cgR c' (hS (nS a b c) l j).n (hS (nS a b c) l j).t) = 0 ∨ all = true then [cgR c' (hS (nS a b c) l j).n (hS (nS a b c) l j).t] else [])) := fun j c' h => hist_take h
  have HLe : Hid (∀ j, (hist all (nS a b c) (l.take j)).length ≤ j) := fun j => Nat.le_trans (hist_le all _ _) (by rw [List.length_take]; omega)
  have HAll : Hid (l.take l.length = l) := List.take_length
  have HC := hide hC
  clear ho b0 hC
  unfold limV
  generalize (nS a b c) = S0 at *
  generalize (a : Int) = a at *
  generalize (b : Int) = b at *
  generalize (c : Int) = c at *
  obtain ⟨i0, hi0, hz0, hz1, hz2⟩ := info_parts info47
  have HI0 := hide (And.intro hi0 (And.intro hz0 (And.intro hz1 hz2)))
  clear hi0 hz0 hz1 hz2
  go_enter Tryz.func11, Tryz.ntmps11
  go_wp2_with fail
  refine HN.out.mono ?_
  rintro e w1 ⟨d, rfl, h1⟩
  have H1 := hide h1
  clear h1 HN
  go_wp2
  go_loopg [9, 10] l.length (fun k q9 q10 wr => ∃ (j : Nat) (vq : Option Addr) (mq cq : Nat), k + j = l.length ∧ q10 = .int .i64 (j : Int) ∧ q9 = .slice vq mq cq ∧ Hid (HiS w wr d S0 l all j (.slice vq mq cq)))
  case atStart => exact ⟨0, none, 0, 0, by omega, rfl, rfl, H1.out⟩
  case round =>
    clear H1
    obtain ⟨j, vq, mq, cq, hkj, rfl, rfl, HH⟩ := hrel
    by_cases hk : 0 < gk
    · have hj : j < l.length := by omega
      have h1 : (j : Int) < (l.length : Int) := by omega
      have h0 : (0 : Int) ≤ (j : Int) := by omega
      obtain ⟨c', hc'⟩ : ∃ c', l[j]? = some c' := ⟨l[j]'hj, List.getElem?_eq_getElem hj⟩
      obtain ⟨rb, off, rfl, k0, k1, k2, k3⟩ := (HC.out.grown HH.out.gr) j c' hc'
      obtain ⟨vd, hdb⟩ := HH.out.db
      have HD := hide hdb
      have d5 := hdb.cell (j := 5) rfl
      have d6 := hdb.cell (j := 6) rfl
      have HRe' := hide (HRe.out c' j)
      obtain ⟨r, hr⟩ : ∃ r, r = cgR c' (hS S0 l j).n (hS S0 l j).t := ⟨_, rfl⟩
      have HOkR : Hid r.Ok := by rw [hr]; exact cgR_ok (HOk.out j).n0 (HOk.out j).n1 (HOk.out j).t0 (HOk.out j).t1
      have HSj : Hid (hS S0 l (j + 1) = app (hS S0 l j) r) := by rw [hr]; exact HSt.out j c' hc'
      have HHj : Hid (hist all S0 (l.take (j + 1)) = hist all S0 (l.take j) ++ (if appE (hS S0 l j) r = 0 ∨ all = true then [r] else [])) := by rw [hr]; exact HHt.out j c' hc'
      rw [← hr] at HRe'
      have HKf : Hid (∀ W, wr.grownBy W none → W.cell? ⟨rb, off + j * 4, none⟩ = some (.int .i64 c'.k) ∧ W.cell? ⟨rb, off + j * 4 + 1, none⟩ = some (.int .i64 c'.i) ∧ W.cell? ⟨rb, off + j * 4 + 2, none⟩ = some (.int .i64 c'.s) ∧ W.cell? ⟨rb, off + j * 4 + 3, none⟩ = some (.int .i64 c'.t) ∧ W.cell? ⟨d, 5, none⟩ = some (.int .u32 ((hS S0 l j).n : Int)) ∧ W.cell? ⟨d, 6, none⟩ = some (.int .i64 (hS S0 l j).t)) := fun W g => ⟨g.cell k0 (by simp), g.cell k1 (by simp), g.cell k2 (by simp), g.cell k3 (by simp), g.cell d5 (by simp), g.cell d6 (by simp)⟩
      clear hr hdb hc' hj
      unfold rcc at HRe'
      obtain ⟨rk, ri, rs, ru, rc⟩ := r
      obtain ⟨ck, ci, cs, ct⟩ := c'
      simp only at *
      generalize ((hS S0 l j).n : Int) = Sn at *
      generalize (hS S0 l j).t = St at *
      go_wp2
      go_cut [11] from 28 to 40 (fun v W => ∃ B, v = .pointer (some ⟨B, 0, none⟩) ∧ Hid (W.heap[B]? = some (.cells [Value.int .i64 rk, .int .u32 ri, .int .i64 rs, .int .i64 ru, .int .i64 rc].toArray 56 (0, 0)) ∧ wr.grownBy W none))
      case first =>
        have hK0 := HKf.out wr.drew (grown_drew wr none)
        have hKz := HKf.out _ (gn_drew (grown_alloc wr (.cells #[.int .i64 0, .int .u32 0, .int .i64 0, .int .i64 0, .int .i64 0] 56)))
        refine wp_region_held_drew (S := (fun W => W.cell? ⟨rb, off + j * 4, none⟩ = some (.int .i64 ck) ∧ W.cell? ⟨rb, off + j * 4 + 1, none⟩ = some (.int .i64 ci) ∧ W.cell? ⟨rb, off + j * 4 + 2, none⟩ = some (.int .i64 cs) ∧ W.cell? ⟨rb, off + j * 4 + 3, none⟩ = some (.int .i64 ct) ∧ W.cell? ⟨d, 5, none⟩ = some (.int .u32 Sn) ∧ W.cell? ⟨d, 6, none⟩ = some (.int .i64 St))) (by kernel_rfl) ?_ (fun hHeld => ?_)
        · (exact hK0)
        refine tkH (i := 0) (v := ?_) rfl ?_ ?_
        rotate_left
        · (intro w hSw; (try dsimp only at hSw); (go_simp <;> with_reducible rfl))
        try simp only [Act.put, List.setIfInBounds_toArray]
        refine tkH (i := 1) (v := ?_) rfl ?_ ?_
        rotate_left
        · (intro w hSw; (try dsimp only at hSw); (go_simp <;> with_reducible rfl))
        try simp only [Act.put]
        refine tkH (i := 2) (v := ?_) rfl ?_ ?_
        rotate_left
        · (intro w hSw; (try dsimp only at hSw); (go_simp <;> with_reducible rfl))
        try simp only [Act.put]
        refine tkH (i := 3) (v := ?_) rfl ?_ ?_
        rotate_left
        · (intro w hSw; (try dsimp only at hSw); (go_simp <;> with_reducible rfl))
        try simp only [Act.put]
        refine tkH (i := 4) (v := ?_) rfl ?_ ?_
        rotate_left
        · (intro w hSw; (try dsimp only at hSw); (go_simp <;> with_reducible rfl))
        try simp only [Act.put]
        refine tkH (i := 5) (v := ?_) rfl ?_ ?_
        rotate_left
        · (intro w hSw; (try dsimp only at hSw); (go_simp <;> with_reducible rfl))
        try simp only [Act.put]
        refine tkH (i := 6) (v := ?_) rfl ?_ ?_
        rotate_left
        · (intro w hSw; (try dsimp only at hSw); (go_simp <;> with_reducible rfl))
        try simp only [Act.put]
        refine tkH (i := 7) (v := ?_) rfl ?_ ?_
        rotate_left
        · (intro w hSw; (try dsimp only at hSw); (go_simp <;> with_reducible rfl))
        try simp only [Act.put]
        refine tkH (i := 8) (v := ?_) rfl ?_ ?_
        rotate_left
        · (intro w hSw; (try dsimp only at hSw); (go_simp <;> with_reducible rfl))
        try simp only [Act.put]
        refine tkH (i := 9) (v := ?_) rfl ?_ ?_
        rotate_left
        · (intro w hSw; (try dsimp only at hSw); (go_simp <;> with_reducible rfl))
        try simp only [Act.put]
        refine tkH (i := 10) (v := ?_) rfl ?_ ?_
        rotate_left
        · (intro w hSw; (try dsimp only at hSw); (go_simp <;> with_reducible rfl))
        try simp only [Act.put]
        refine tkH (i := 11) (v := ?_) rfl ?_ ?_
        rotate_left
        · (intro w hSw; (try dsimp only at hSw); (go_simp <;> with_reducible rfl))
        try simp only [Act.put]
        refine wpAnyH_ready (rs := [12, 13]) (by kernel_rfl) (by simp) ?_
        refine AllReadyH.cons rfl (fun K hK => ?_) ?_
        · skip
          go_simp
          refine (HRe'.out _).mono ?_
          rintro e w2 ⟨rfl, g2⟩
          have G1 := hide (grown_trans (grown_drew wr none) g2)
          have hK1 := HKf.out w2 G1.out
          have hK2 := HKf.out _ (gn_alloc G1.out (.cells #[.int .i64 0, .int .u32 0, .int .i64 0, .int .i64 0, .int .i64 0] 56))
          have hK3 := HKf.out _ (gn_alloc G1.out (.cells #[.int .i64 rk, .int .u32 ri, .int .i64 rs, .int .i64 ru, .int .i64 rc] 56))
          have HZ := hide (And.intro (heap_alloc_new w2 (.cells #[.int .i64 rk, .int .u32 ri, .int .i64 rs, .int .i64 ru, .int .i64 rc] 56)) (gn_alloc G1.out (.cells #[.int .i64 rk, .int .u32 ri, .int .i64 rs, .int .i64 ru, .int .i64 rc] 56)))
          clear g2
          go_wp2_with fail
          refine hK.out _ _ ?_ (fun hHeld => ?_)
          · ((try dsimp only); first | with_reducible exact hK1 | with_reducible exact hK2 | with_reducible exact hK3 | with_reducible exact hK0 | with_reducible exact hKz | exact hK0 | exact hKz | exact hK1 | exact hK2 | exact hK3)
          clear hK K
          try simp only [Act.put, List.setIfInBounds_toArray, List.set_cons_zero, List.set_cons_succ]
          refine rdH (i := 13) rfl (fun K hK => ?_)
          go_simp
          refine hK.out _ _ ?_ (fun hHeld => ?_)
          · ((try dsimp only); first | with_reducible exact hK1 | with_reducible exact hK2 | with_reducible exact hK3 | with_reducible exact hK0 | with_reducible exact hKz | exact hK0 | exact hKz | exact hK1 | exact hK2 | exact hK3)
          clear hK K
          try simp only [Act.put, List.setIfInBounds_toArray, List.set_cons_zero, List.set_cons_succ]
          refine rdH (i := 14) rfl (fun K hK => ?_)
          go_simp
          refine hK.out _ _ ?_ (fun hHeld => ?_)
          · ((try dsimp only); first | with_reducible exact hK1 | with_reducible exact hK2 | with_reducible exact hK3 | with_reducible exact hK0 | with_reducible exact hKz | exact hK0 | exact hKz | exact hK1 | exact hK2 | exact hK3)
          clear hK K
          try simp only [Act.put, List.setIfInBounds_toArray, List.set_cons_zero, List.set_cons_succ]
          refine wpAnyH_done (by kernel_rfl) ?_ _
          go_wp2
          go_meet
          case rel => exact ⟨_, rfl, HZ.out.1, HZ.out.2⟩
        refine AllReadyH.cons rfl (fun K hK => ?_) ?_
        · skip
          go_simp
          refine hK.out _ _ ?_ (fun hHeld => ?_)
          · ((try dsimp only); first | with_reducible exact hK1 | with_reducible exact hK2 | with_reducible exact hK3 | with_reducible exact hK0 | with_reducible exact hKz | exact hK0 | exact hKz | exact hK1 | exact hK2 | exact hK3)
          clear hK K
          try simp only [Act.put, List.setIfInBounds_toArray, List.set_cons_zero, List.set_cons_succ]
          refine rdH (i := 12) rfl (fun K hK => ?_)
          go_simp
          refine (HRe'.out _).mono ?_
          rintro e w2 ⟨rfl, g2⟩
          have G2 := hide (grown_trans (grown_drew (wr.alloc (.cells #[.int .i64 0, .int .u32 0, .int .i64 0, .int .i64 0, .int .i64 0] 56)) none) g2)
          have hK1 := HKf.out w2 (grown_trans (grown_alloc wr _) G2.out)
          have HQ5 := hide (Rk.set5 (mid_b G2.out) (.int .i64 rk) (.int .u32 ri) (.int .i64 rs) (.int .i64 ru) (.int .i64 rc))
          have G3 := hide (gn_set (gn_set (gn_set (gn_set (gn_set (grown_trans (grown_alloc wr _) G2.out) (Nat.le_refl _) (j := 0) (v := .int .i64 rk)) (Nat.le_refl _) (j := 1) (v := .int .u32 ri)) (Nat.le_refl _) (j := 2) (v := .int .i64 rs)) (Nat.le_refl _) (j := 3) (v := .int .i64 ru)) (Nat.le_refl _) (j := 4) (v := .int .i64 rc))
          have hK2 := HKf.out _ G3.out
          have HZ := hide (And.intro HQ5.out.1 G3.out)
          obtain ⟨y0, y1, y2, y3, y4⟩ := Rk.box5 (mid_b G2.out)
          have z0 := free_row (mid_b G2.out) 0
          have z1 := free_row (mid_b G2.out) 1
          have z2 := free_row (mid_b G2.out) 2
          have z3 := free_row (mid_b G2.out) 3
          have z4 := free_row (mid_b G2.out) 4
          clear g2
          go_wp2_with fail
          refine hK.out _ _ ?_ (fun hHeld => ?_)
          · ((try dsimp only); first | with_reducible exact hK1 | with_reducible exact hK2 | with_reducible exact hK3 | with_reducible exact hK0 | with_reducible exact hKz | exact hK0 | exact hKz | exact hK1 | exact hK2 | exact hK3)
          clear hK K
          try simp only [Act.put, List.setIfInBounds_toArray, List.set_cons_zero, List.set_cons_succ]
          refine rdH (i := 14) rfl (fun K hK => ?_)
          go_simp
          refine hK.out _ _ ?_ (fun hHeld => ?_)
          · ((try dsimp only); first | with_reducible exact hK1 | with_reducible exact hK2 | with_reducible exact hK3 | with_reducible exact hK0 | with_reducible exact hKz | exact hK0 | exact hKz | exact hK1 | exact hK2 | exact hK3)
          clear hK K
          try simp only [Act.put, List.setIfInBounds_toArray, List.set_cons_zero, List.set_cons_succ]
          refine wpAnyH_done (by kernel_rfl) ?_ _
          go_wp2
          go_meet
          case rel => exact ⟨_, rfl, HZ.out.1, HZ.out.2⟩
        exact AllReadyH.nil
      case rest =>
        obtain ⟨B, rfl, HB⟩ := hcut
        have hdw := HD.out.then HB.out.2
        have hA := dapply_any hdw (HOk.out j) ⟨rk, ri, rs, ru, rc⟩ HOkR.out
        obtain ⟨y0, y1, y2, y3, y4⟩ := Rk.box5 HB.out.1
        have HA : Hid (Calls Tryz.prog 12 #[.pointer (some ⟨d, 0, none⟩), .agg #[.int .i64 rk, .int .u32 ri, .int .i64 rs, .int .i64 ru, .int .i64 rc]] wc fun e w' => e = .returned (.int .i64 (appE (hS S0 l j) ⟨rk, ri, rs, ru, rc⟩)) ∧ (∃ v', Db w' w.heap.size d v' (hS S0 l (j + 1))) ∧ w'.ownsRow w.heap.size 56 5 (.slice vq mq cq) (hist all S0 (l.take j)).length (rcs (hist all S0 (l.take j))) ∧ w.grownBy w' none ∧ w'.heap[B]? = some (.cells [Value.int .i64 rk, .int .u32 ri, .int .i64 rs, .int .i64 ru, .int .i64 rc].toArray 56 (0, 0))) := by
          refine hA.mono ?_
          rintro e w' ⟨v', rfl, h1, h2⟩
          have hrow := own_keep HH.out.row HB.out.2
          have hBo : ¬ dbo d vd B := by
            rintro (e | e)
            · have := HB.out.1; rw [e, hdw.head] at this; cases this
            · obtain ⟨-, cur, hc⟩ := Ix.own_block hdw.row e
              rw [HB.out.1] at hc; cases hc
          refine ⟨rfl, ⟨v', by rw [HSj.out]; exact h1⟩, own_kept hrow h2.kept (row_off hdw hrow), kept_grown (grown_trans HH.out.gr HB.out.2) h2.kept (fun i hi => hdw.lows i hi), h2.kept.at HB.out.1 hBo⟩
        have hmq : mq = (hist all S0 (l.take j)).length := slice_n HH.out.row
        have hmj : mq ≤ 1000 := by have := HLe.out j; omega
        clear hdw hA HH HB HD HOkR HSj k0 k1 k2 k3 d5 d6 HKf HRe'
        go_wp2_with fail
        refine HA.out.mono ?_
        rintro e w3 ⟨rfl, hdb3, hrow3, hg3, hB3⟩
        obtain ⟨x0, x1, x2, x3, x4⟩ := Rk.box5 hB3
        have H3 := hide (And.intro hdb3 (And.intro hrow3 hg3))
        have HRow : Hid ((w3.alloc (.cells [Value.int .i64 rk, .int .u32 ri, .int .i64 rs, .int .i64 ru, .int .i64 rc].toArray 56)).ownsRow w.heap.size 56 5 (.slice vq mq cq) mq (rcs (hist all S0 (l.take j))) ∧ (∀ jj u, [Value.int .i64 rk, .int .u32 ri, .int .i64 rs, .int .i64 ru, .int .i64 rc][jj]? = some u → (w3.alloc (.cells [Value.int .i64 rk, .int .u32 ri, .int .i64 rs, .int .i64 ru, .int .i64 rc].toArray 56)).cell? ((⟨w3.heap.size, 0, none⟩ : Addr).add jj) = some u) ∧ w.heap.size ≤ w3.heap.size) := by
          refine ⟨by rw [hmq]; rw [← hmq]; have := hrow3.alloc (.cells [Value.int .i64 rk, .int .u32 ri, .int .i64 rs, .int .i64 ru, .int .i64 rc].toArray 56); rw [← hmq] at this; exact this, fun jj u hu => ?_, hg3.size⟩
          rw [Addr.add_lit, Nat.zero_add, cell_row (heap_alloc_new w3 _)]
          exact hu
        have HOc : Hid (∀ u ∈ [Value.int .i64 rk, .int .u32 ri, .int .i64 rs, .int .i64 ru, .int .i64 rc], u.oneCell' = true) := by
          intro u hu
          simp at hu
          rcases hu with rfl | rfl | rfl | rfl | rfl <;> rfl
        have HAp : Hid (appE (hS S0 l j) ⟨rk, ri, rs, ru, rc⟩ = 0 ∨ all = true → ∀ v' w', w'.ownsRow w.heap.size 56 5 v' (mq + 1) (rcs (hist all S0 (l.take j)) ++ [Value.int .i64 rk, .int .u32 ri, .int .i64 rs, .int .i64 ru, .int .i64 rc]) → (w3.alloc (.cells [Value.int .i64 rk, .int .u32 ri, .int .i64 rs, .int .i64 ru, .int .i64 rc].toArray 56)).grownBy w' (Value.slice vq mq cq).ownBlock → HiS w w' d S0 l all (j + 1) v') := by
          intro hy v' w' hov hg
          obtain ⟨⟨v3, hd3⟩, hr3, hg3⟩ := H3.out
          have k : Kept w3 w' (fun i => (Value.slice vq mq cq).ownBlock = some i) := (Kept.new (grown_alloc w3 _) _).trans (Kept.of hg (S := fun i => (Value.slice vq mq cq).ownBlock = some i) (fun j e _ => e)) (fun _ _ e => e)
          have hge : ∀ i, (Value.slice vq mq cq).ownBlock = some i → w.heap.size ≤ i := fun i hi => (Ix.own_block hr3 hi).1
          have hof := row_off hd3 hr3
          refine ⟨⟨v3, hd3.far k (fun i hi e => hof i e hi)⟩, ?_, kept_grown hg3 k hge⟩
          rw [HHj.out, if_pos hy, List.length_append, ← hmq, rcs_snoc]
          exact hov
        have HNo : Hid (¬ (appE (hS S0 l j) ⟨rk, ri, rs, ru, rc⟩ = 0 ∨ all = true) → HiS w w3 d S0 l all (j + 1) (.slice vq mq cq)) := by
          intro hn
          refine ⟨H3.out.1, ?_, H3.out.2.2⟩
          rw [HHj.out, if_neg hn, List.append_nil]
          exact H3.out.2.1
        have HMq := hide hmj
        clear hdb3 hrow3 hg3 hB3 HA HHj H3 hmq hmj y0 y1 y2 y3 y4
        generalize rcs (hist all S0 (l.take j)) = Lt at *
        generalize appE (hS S0 l j) ⟨rk, ri, rs, ru, rc⟩ = er at *
        by_cases he : er = 0
        · subst he
          have HAp2 := hide (HAp.out (.inl rfl))
          clear HNo HAp
          go_wp2_with (at_builtin; refine wpList_append_own _ rfl (.tmp 49) (.tmp 51) 51 rfl w.heap.size 56 i0 (.agg #[.int .i64 0, .int .u32 0, .int .i64 0, .int .i64 0, .int .i64 0]) 5 40 Tryz.underlying51 HI0.out.1 HI0.out.2.1 HI0.out.2.2.1 HI0.out.2.2.2 rfl (by decide) (.slice vq mq cq) mq Lt rfl HRow.out.1 ⟨w3.heap.size, 0, none⟩ 1 1 [.int .i64 rk, .int .u32 ri, .int .i64 rs, .int .i64 ru, .int .i64 rc] rfl rfl HRow.out.2.1 HOc.out (by have := HMq.out; unfold maxLen; omega) (by have := HMq.out; omega) (by have := HRow.out.2.2; simp; omega) ?_)
          intro v' w' hov hg hv
          clear hv
          obtain ⟨vo', vc', rfl, -⟩ := Ix.own_form hov
          have HN := hide (HAp2.out _ _ hov hg)
          clear hov hg
          go_wp2
          go_roundg (gk - 1)
          case measure => omega
          case rel => exact ⟨j + 1, vo', mq + 1, vc', by omega, by go_num, rfl, HN.out⟩
        · have f1 : (er == 0) = false := by simpa using he
          have f2 : decide (er = 0) = false := by simpa using he
          cases all with
          | true =>
            have HAp2 := hide (HAp.out (.inr rfl))
            clear HNo he HAp
            go_wp2_with (at_builtin; refine wpList_append_own _ rfl (.tmp 49) (.tmp 51) 51 rfl w.heap.size 56 i0 (.agg #[.int .i64 0, .int .u32 0, .int .i64 0, .int .i64 0, .int .i64 0]) 5 40 Tryz.underlying51 HI0.out.1 HI0.out.2.1 HI0.out.2.2.1 HI0.out.2.2.2 rfl (by decide) (.slice vq mq cq) mq Lt rfl HRow.out.1 ⟨w3.heap.size, 0, none⟩ 1 1 [.int .i64 rk, .int .u32 ri, .int .i64 rs, .int .i64 ru, .int .i64 rc] rfl rfl HRow.out.2.1 HOc.out (by have := HMq.out; unfold maxLen; omega) (by have := HMq.out; omega) (by have := HRow.out.2.2; simp; omega) ?_)
            intro v' w' hov hg hv
            clear hv
            obtain ⟨vo', vc', rfl, -⟩ := Ix.own_form hov
            have HN := hide (HAp2.out _ _ hov hg)
            clear hov hg
            go_wp2
            go_roundg (gk - 1)
            case measure => omega
            case rel => exact ⟨j + 1, vo', mq + 1, vc', by omega, by go_num, rfl, HN.out⟩
          | false =>
            have HN := hide (HNo.out (fun e => e.elim he (fun e => by cases e)))
            clear HNo HAp he HRow HOc
            go_wp2
            go_roundg (gk - 1)
            case measure => omega
            case rel => exact ⟨j + 1, vq, mq, cq, by omega, by go_num, rfl, HN.out⟩
    · have hj : j = l.length := by omega
      have HF := HH.out
      rw [hj] at HF
      have hrow := HF.row
      rw [HAll.out] at hrow
      have hmq : mq = (hist all S0 l).length := slice_n hrow
      have HX := hide (And.intro hrow HF.gr)
      clear HF hrow HH
      subst hj
      subst hmq
      go_wp2
      go_ret
      exact ⟨vq, cq, rfl, HX.out⟩
end Go.Proofs.YtjfhilignbeboabGreatDoor
/- Requests as bytes: numbers alone, without the program. -/
namespace Go.Proofs.YtjfhilignbeboabGreatDoor.Rs
/-- A request: kind, tag, id, seat, ttl. -/
structure Rq where
  k : Int
  t : Int
  i : Int
  s : Int
  u : Int
/-- Its numbers are such. -/
structure Rq.Ok (q : Rq) : Prop where
  k0 : -9223372036854775808 ≤ q.k
  k1 : q.k ≤ 9223372036854775807
  t0 : 0 ≤ q.t
  t1 : q.t < 4294967296
  i0 : 0 ≤ q.i
  i1 : q.i < 4294967296
  s0 : -9223372036854775808 ≤ q.s
  s1 : q.s ≤ 9223372036854775807
  u0 : -9223372036854775808 ≤ q.u
  u1 : q.u ≤ 9223372036854775807
/-- What a kind has. -/
def hI (k : Int) : Bool := decide (k = 2 ∨ k = 3 ∨ k = 4 ∨ k = 5)
def hS (k : Int) : Bool := decide (k = 1 ∨ k = 4 ∨ k = 6)
def hL (k : Int) : Bool := decide (k = 1 ∨ k = 7)
/-- A number in its place. -/
def inP (b : Bool) (n m : Int) : Bool := if b then decide (0 ≤ n ∧ n ≤ m) else decide (n = 0)
/-- It may be. -/
def Rq.mayB (q : Rq) : Bool := decide (1 ≤ q.k ∧ q.k ≤ 10) && (inP (hI q.k) q.i 4294967295 && (inP (hS q.k) q.s 65535 && inP (hL q.k) q.u 9223372036854775807))
def Rq.May (q : Rq) : Prop := q.mayB = true
instance (q : Rq) : Decidable q.May := by unfold Rq.May; exact inferInstance
/-- What Check answers. -/
def chk (q : Rq) : Int := if q.May then 0 else 200
end Go.Proofs.YtjfhilignbeboabGreatDoor.Rs
/- requests: parts, what a kind has. -/
namespace Go.Proofs.YtjfhilignbeboabGreatDoor.Rs
open Go.RowKit
attribute [local go_sem ↓] Go.wp_at_zero Go.wp_at_succ
def rqV (q : Rq) : Value := .agg #[.int .i64 q.k, .int .u32 q.t, .int .u32 q.i, .int .i64 q.s, .int .i64 q.u]
def rqC (q : Rq) : List Value := [.int .i64 q.k, .int .u32 q.t, .int .u32 q.i, .int .i64 q.s, .int .i64 q.u]
theorem results_cell1 {fn : Func} {p : Tmp} {ty : TypeId} (h : fn.results = #[.cell p ty]) (tmps : Array Value) (P : Program) (w : World) :
    (results fn tmps).run P w = ((asAddr (tmps.getD p undef)).run P w).andThen fun a w₁ => (loadVar ty a).run P w₁ := by
  simp only [results, h]
  simp [Sem.run_bind, Result.andThen]
theorem isKind_any (k : Int) (w : World) : Calls Tryz.prog 39 #[.int .i64 k] w fun e w' => e = .returned (.bool (decide (1 ≤ k ∧ k ≤ 10))) ∧ w' = w := by
  by_cases h1 : 1 ≤ k
  · by_cases h2 : k ≤ 10
    · rw [decide_eq_true (show 1 ≤ k ∧ k ≤ 10 from ⟨h1, h2⟩)]
      go_enter Tryz.func39, Tryz.ntmps39
      go_wp2
      go_ret
      exact ⟨rfl, rfl⟩
    · rw [decide_eq_false (show ¬ (1 ≤ k ∧ k ≤ 10) from fun h => h2 h.2)]
      go_enter Tryz.func39, Tryz.ntmps39
      go_wp2
      go_ret
      exact ⟨rfl, rfl⟩
  · rw [decide_eq_false (show ¬ (1 ≤ k ∧ k ≤ 10) from fun h => h1 h.1)]
    go_enter Tryz.func39, Tryz.ntmps39
    go_wp2
    go_ret
    exact ⟨rfl, rfl⟩
def partsV : Value := .agg #[.int .i64 4294967295, .func (.func 67) #[] #[], .func (.func 68) #[] #[], .func (.func 69) #[] #[], .func (.func 71) #[] #[], .int .i64 65535, .func (.func 73) #[] #[], .func (.func 74) #[] #[], .func (.func 75) #[] #[], .func (.func 77) #[] #[], .int .i64 9223372036854775807, .func (.func 79) #[] #[], .func (.func 80) #[] #[], .func (.func 81) #[] #[], .func (.func 83) #[] #[]]
theorem parts_any (w : World) : Calls Tryz.prog 40 #[] w fun e w' => e = .returned partsV ∧ w.grownBy w' none := by
  unfold partsV
  go_enter Tryz.func40, Tryz.ntmps40
  go_wp2
  have b := heap_alloc_new w (.cells [Value.int .i64 4294967295, .func (.func 67) #[] #[], .func (.func 68) #[] #[], .func (.func 69) #[] #[], .func (.func 71) #[] #[], .int .i64 65535, .func (.func 73) #[] #[], .func (.func 74) #[] #[], .func (.func 75) #[] #[], .func (.func 77) #[] #[], .int .i64 9223372036854775807, .func (.func 79) #[] #[], .func (.func 80) #[] #[], .func (.func 81) #[] #[], .func (.func 83) #[] #[]].toArray 101)
  have G := hide (World.grownBy_alloc w (.cells #[.int .i64 4294967295, .func (.func 67) #[] #[], .func (.func 68) #[] #[], .func (.func 69) #[] #[], .func (.func 71) #[] #[], .int .i64 65535, .func (.func 73) #[] #[], .func (.func 74) #[] #[], .func (.func 75) #[] #[], .func (.func 77) #[] #[], .int .i64 9223372036854775807, .func (.func 79) #[] #[], .func (.func 80) #[] #[], .func (.func 81) #[] #[], .func (.func 83) #[] #[]] 101) none)

  have c0 := cell_row b 0
  have c1 := cell_row b 1
  have c2 := cell_row b 2
  have c3 := cell_row b 3
  have c4 := cell_row b 4
  have c5 := cell_row b 5
  have c6 := cell_row b 6
  have c7 := cell_row b 7
  have c8 := cell_row b 8
  have c9 := cell_row b 9
  have c10 := cell_row b 10
  have c11 := cell_row b 11
  have c12 := cell_row b 12
  have c13 := cell_row b 13
  have c14 := cell_row b 14
  clear b
  generalize w.alloc (.cells #[.int .i64 4294967295, .func (.func 67) #[] #[], .func (.func 68) #[] #[], .func (.func 69) #[] #[], .func (.func 71) #[] #[], .int .i64 65535, .func (.func 73) #[] #[], .func (.func 74) #[] #[], .func (.func 75) #[] #[], .func (.func 77) #[] #[], .int .i64 9223372036854775807, .func (.func 79) #[] #[], .func (.func 80) #[] #[], .func (.func 81) #[] #[], .func (.func 83) #[] #[]] 101) = w1 at *
  refine bodyPost_ret (v := .agg #[.int .i64 4294967295, .func (.func 67) #[] #[], .func (.func 68) #[] #[], .func (.func 69) #[] #[], .func (.func 71) #[] #[], .int .i64 65535, .func (.func 73) #[] #[], .func (.func 74) #[] #[], .func (.func 75) #[] #[], .func (.func 77) #[] #[], .int .i64 9223372036854775807, .func (.func 79) #[] #[], .func (.func 80) #[] #[], .func (.func 81) #[] #[], .func (.func 83) #[] #[]]) ?_ rfl ?_
  · rw [results_cell1 rfl]; go_simp
  exact ⟨rfl, G.out⟩
theorem hasId_any (k : Int) (w : World) : Calls Tryz.prog 67 #[.int .i64 k] w fun e w' => e = .returned (.bool (hI k)) ∧ w' = w := by
  by_cases h2 : k = 2
  · subst h2
    go_enter Tryz.func67, Tryz.ntmps67
    go_wp2
    go_ret
    exact ⟨rfl, rfl⟩
  by_cases h3 : k = 3
  · subst h3
    go_enter Tryz.func67, Tryz.ntmps67
    go_wp2
    go_ret
    exact ⟨rfl, rfl⟩
  by_cases h4 : k = 4
  · subst h4
    go_enter Tryz.func67, Tryz.ntmps67
    go_wp2
    go_ret
    exact ⟨rfl, rfl⟩
  by_cases h5 : k = 5
  · subst h5
    go_enter Tryz.func67, Tryz.ntmps67
    go_wp2
    go_ret
    exact ⟨rfl, rfl⟩
  rw [show hI k = false from decide_eq_false (by omega)]
  have a2 : (k == 2) = false := by simpa using h2
  have b2 : decide (k = 2) = false := by simpa using h2
  have a3 : (k == 3) = false := by simpa using h3
  have b3 : decide (k = 3) = false := by simpa using h3
  have a4 : (k == 4) = false := by simpa using h4
  have b4 : decide (k = 4) = false := by simpa using h4
  have a5 : (k == 5) = false := by simpa using h5
  have b5 : decide (k = 5) = false := by simpa using h5
  go_enter Tryz.func67, Tryz.ntmps67
  go_wp2
  go_ret
  exact ⟨rfl, rfl⟩
theorem hasSeat_any (k : Int) (w : World) : Calls Tryz.prog 73 #[.int .i64 k] w fun e w' => e = .returned (.bool (hS k)) ∧ w' = w := by
  by_cases h1 : k = 1
  · subst h1
    go_enter Tryz.func73, Tryz.ntmps73
    go_wp2
    go_ret
    exact ⟨rfl, rfl⟩
  by_cases h4 : k = 4
  · subst h4
    go_enter Tryz.func73, Tryz.ntmps73
    go_wp2
    go_ret
    exact ⟨rfl, rfl⟩
  by_cases h6 : k = 6
  · subst h6
    go_enter Tryz.func73, Tryz.ntmps73
    go_wp2
    go_ret
    exact ⟨rfl, rfl⟩
  rw [show hS k = false from decide_eq_false (by omega)]
  have a1 : (k == 1) = false := by simpa using h1
  have b1 : decide (k = 1) = false := by simpa using h1
  have a4 : (k == 4) = false := by simpa using h4
  have b4 : decide (k = 4) = false := by simpa using h4
  have a6 : (k == 6) = false := by simpa using h6
  have b6 : decide (k = 6) = false := by simpa using h6
  go_enter Tryz.func73, Tryz.ntmps73
  go_wp2
  go_ret
  exact ⟨rfl, rfl⟩
theorem hasTtl_any (k : Int) (w : World) : Calls Tryz.prog 79 #[.int .i64 k] w fun e w' => e = .returned (.bool (hL k)) ∧ w' = w := by
  by_cases h1 : k = 1
  · subst h1
    go_enter Tryz.func79, Tryz.ntmps79
    go_wp2
    go_ret
    exact ⟨rfl, rfl⟩
  by_cases h7 : k = 7
  · subst h7
    go_enter Tryz.func79, Tryz.ntmps79
    go_wp2
    go_ret
    exact ⟨rfl, rfl⟩
  rw [show hL k = false from decide_eq_false (by omega)]
  have a1 : (k == 1) = false := by simpa using h1
  have b1 : decide (k = 1) = false := by simpa using h1
  have a7 : (k == 7) = false := by simpa using h7
  have b7 : decide (k = 7) = false := by simpa using h7
  go_enter Tryz.func79, Tryz.ntmps79
  go_wp2
  go_ret
  exact ⟨rfl, rfl⟩
/-- The kinds that change something. -/
def chg (k : Int) : Bool := decide (k = 1 ∨ k = 2 ∨ k = 3 ∨ k = 4 ∨ k = 7)
theorem changes_any (k : Int) (w : World) : Calls Tryz.prog 45 #[.int .i64 k] w fun e w' => e = .returned (.bool (chg k)) ∧ w' = w := by
  by_cases h1 : k = 1
  · subst h1
    go_enter Tryz.func45, Tryz.ntmps45
    go_wp2
    go_ret
    exact ⟨rfl, rfl⟩
  by_cases h2 : k = 2
  · subst h2
    go_enter Tryz.func45, Tryz.ntmps45
    go_wp2
    go_ret
    exact ⟨rfl, rfl⟩
  by_cases h3 : k = 3
  · subst h3
    go_enter Tryz.func45, Tryz.ntmps45
    go_wp2
    go_ret
    exact ⟨rfl, rfl⟩
  by_cases h4 : k = 4
  · subst h4
    go_enter Tryz.func45, Tryz.ntmps45
    go_wp2
    go_ret
    exact ⟨rfl, rfl⟩
  by_cases h7 : k = 7
  · subst h7
    go_enter Tryz.func45, Tryz.ntmps45
    go_wp2
    go_ret
    exact ⟨rfl, rfl⟩
  rw [show chg k = false from decide_eq_false (by omega)]
  have a1 : (k == 1) = false := by simpa using h1
  have b1 : decide (k = 1) = false := by simpa using h1
  have a2 : (k == 2) = false := by simpa using h2
  have b2 : decide (k = 2) = false := by simpa using h2
  have a3 : (k == 3) = false := by simpa using h3
  have b3 : decide (k = 3) = false := by simpa using h3
  have a4 : (k == 4) = false := by simpa using h4
  have b4 : decide (k = 4) = false := by simpa using h4
  have a7 : (k == 7) = false := by simpa using h7
  have b7 : decide (k = 7) = false := by simpa using h7
  go_enter Tryz.func45, Tryz.ntmps45
  go_wp2
  go_ret
  exact ⟨rfl, rfl⟩
end Go.Proofs.YtjfhilignbeboabGreatDoor.Rs
/- requests: a part's number, isRight, Check. -/
namespace Go.Proofs.YtjfhilignbeboabGreatDoor.Rs
open Go.RowKit
attribute [local go_sem ↓] Go.wp_at_zero Go.wp_at_succ
theorem box5 {w : World} {g : Nat} {t : TypeId} {x y z u v : Value} (h : w.heap[g]? = some (.cells [x, y, z, u, v].toArray t (0, 0))) : w.cell? ⟨g, 0, none⟩ = some x ∧ w.cell? ⟨g, 1, none⟩ = some y ∧ w.cell? ⟨g, 2, none⟩ = some z ∧ w.cell? ⟨g, 3, none⟩ = some u ∧ w.cell? ⟨g, 4, none⟩ = some v :=
  ⟨cell_row h 0, cell_row h 1, cell_row h 2, cell_row h 3, cell_row h 4⟩
theorem two_boxes (w : World) (l m : List Value) (s t : TypeId) : ((w.alloc (.cells l.toArray s)).alloc (.cells m.toArray t)).heap[w.heap.size]? = some (.cells l.toArray s (0, 0)) ∧ ((w.alloc (.cells l.toArray s)).alloc (.cells m.toArray t)).heap[w.heap.size + 1]? = some (.cells m.toArray t (0, 0)) ∧ w.grownBy ((w.alloc (.cells l.toArray s)).alloc (.cells m.toArray t)) none := by
  have g1 := World.grownBy_alloc w (.cells l.toArray s) none
  have g2 := World.grownBy_alloc (w.alloc (.cells l.toArray s)) (.cells m.toArray t) none
  have b1 := heap_alloc_new w (.cells l.toArray s)
  have b2 := heap_alloc_new (w.alloc (.cells l.toArray s)) (.cells m.toArray t)
  rw [World.size_alloc] at b2
  exact ⟨(g2.block _ (row_lt b1) (by simp)).trans b1, b2, grown_trans g1 g2⟩
def partI : List Value := [.int .i64 4294967295, .func (.func 67) #[] #[], .func (.func 68) #[] #[], .func (.func 69) #[] #[], .func (.func 71) #[] #[]]
theorem numI_any (q : Rq) (ho : q.Ok) (w : World) : Calls Tryz.prog 68 #[rqV q] w fun e w' => e = .returned (.int .i64 q.i) ∧ w.grownBy w' none := by
  have W1 : IntKind.i64.wrap q.i = q.i := by rw [IntKind.wrap_i64]; have := ho.i0; have := ho.i1; omega
  have G := hide (World.grownBy_alloc w (.cells #[.int .i64 q.k, .int .u32 q.t, .int .u32 q.i, .int .i64 q.s, .int .i64 q.u] 42) none)
  obtain ⟨c0, c1, c2, c3, c4⟩ := box5 (heap_alloc_new w (.cells [Value.int .i64 q.k, .int .u32 q.t, .int .u32 q.i, .int .i64 q.s, .int .i64 q.u].toArray 42))
  clear ho
  unfold rqV
  go_enter Tryz.func68, Tryz.ntmps68
  go_wp2
  go_ret
  exact ⟨rfl, G.out⟩
theorem rightI_any (q : Rq) (ho : q.Ok) (w : World) : Calls Tryz.prog 41 #[.agg partI.toArray, rqV q] w fun e w' => e = .returned (.bool (inP (hI q.k) q.i 4294967295)) ∧ w.grownBy w' none := by
  obtain ⟨ba, bb, bg⟩ := two_boxes w partI (rqC q) 100 42
  have HB := hide (And.intro ba (And.intro bb bg))
  have qn := numI_any q ho ((w.alloc (.cells partI.toArray 100)).alloc (.cells (rqC q).toArray 42))
  have qh := hasId_any q.k
  unfold partI at ba
  unfold rqC at bb
  obtain ⟨c0, c1, c2, c3, c4⟩ := box5 ba
  obtain ⟨d0, d1, d2, d3, d4⟩ := box5 bb
  obtain ⟨res, hres⟩ : ∃ res, res = inP (hI q.k) q.i 4294967295 := ⟨_, rfl⟩
  rw [← hres]
  have HR := hide hres
  clear hres ba bb bg ho
  unfold partI rqV at *
  unfold rqC at c0 c1 c2 c3 c4 qn HB
  generalize hI q.k = hb at *
  go_enter Tryz.func41, Tryz.ntmps41
  go_wp2_with fail
  generalize ((w.alloc (.cells [Value.int .i64 4294967295, .func (.func 67) #[] #[], .func (.func 68) #[] #[], .func (.func 69) #[] #[], .func (.func 71) #[] #[]].toArray 100)).alloc (.cells [Value.int .i64 q.k, .int .u32 q.t, .int .u32 q.i, .int .i64 q.s, .int .i64 q.u].toArray 42)) = w1 at *
  refine qn.mono ?_
  clear qn
  rintro e w2 ⟨rfl, hg⟩
  have B1 := (hg.block _ (row_lt HB.out.1) (by simp)).trans HB.out.1
  have B2 := (hg.block _ (row_lt HB.out.2.1) (by simp)).trans HB.out.2.1
  have HG := hide (grown_trans HB.out.2.2 hg)
  clear c0 c1 c2 c3 c4 d0 d1 d2 d3 d4 hg
  obtain ⟨c0, c1, c2, c3, c4⟩ := box5 B1
  obtain ⟨d0, d1, d2, d3, d4⟩ := box5 B2
  clear B1 B2
  go_wp2_with fail
  refine (qh w2).mono ?_
  clear qh
  rintro e wx ⟨rfl, hw⟩
  obtain rfl := hw.symm
  clear hw
  cases hb with
  | false =>
    have HR2 : Hid (res = decide (q.i = 0)) := HR.out
    by_cases h0 : q.i = 0
    · have e1 : (q.i == 0) = true := by simpa using h0
      have HR3 : Hid (res = true) := HR2.out.trans (decide_eq_true h0)
      clear h0
      go_wp2
      go_ret
      exact ⟨by rw [HR3.out]; rfl, HG.out⟩
    · have e1 : (q.i == 0) = false := by simpa using h0
      have e2 : decide (q.i = 0) = false := by simpa using h0
      have HR3 : Hid (res = false) := HR2.out.trans (decide_eq_false h0)
      clear h0
      go_wp2
      go_ret
      exact ⟨by rw [HR3.out]; rfl, HG.out⟩
  | true =>
    have HR2 : Hid (res = decide (0 ≤ q.i ∧ q.i ≤ 4294967295)) := HR.out
    by_cases h1 : 0 ≤ q.i
    · by_cases h2 : q.i ≤ 4294967295
      · have HR3 : Hid (res = true) := HR2.out.trans (decide_eq_true ⟨h1, h2⟩)
        go_wp2
        go_ret
        exact ⟨by rw [HR3.out]; rfl, HG.out⟩
      · have HR3 : Hid (res = false) := HR2.out.trans (decide_eq_false (fun h => h2 h.2))
        have h3 : decide (q.i ≤ 4294967295) = false := decide_eq_false h2
        go_wp2
        go_ret
        exact ⟨by rw [HR3.out]; rfl, HG.out⟩
    · have HR3 : Hid (res = false) := HR2.out.trans (decide_eq_false (fun h => h1 h.1))
      go_wp2
      go_ret
      exact ⟨by rw [HR3.out]; rfl, HG.out⟩
def partS : List Value := [.int .i64 65535, .func (.func 73) #[] #[], .func (.func 74) #[] #[], .func (.func 75) #[] #[], .func (.func 77) #[] #[]]
theorem numS_any (q : Rq) (ho : q.Ok) (w : World) : Calls Tryz.prog 74 #[rqV q] w fun e w' => e = .returned (.int .i64 q.s) ∧ w.grownBy w' none := by
  have W1 : IntKind.i64.wrap q.s = q.s := by rw [IntKind.wrap_i64]; have := ho.s0; have := ho.s1; omega
  have G := hide (World.grownBy_alloc w (.cells #[.int .i64 q.k, .int .u32 q.t, .int .u32 q.i, .int .i64 q.s, .int .i64 q.u] 42) none)
  obtain ⟨c0, c1, c2, c3, c4⟩ := box5 (heap_alloc_new w (.cells [Value.int .i64 q.k, .int .u32 q.t, .int .u32 q.i, .int .i64 q.s, .int .i64 q.u].toArray 42))
  clear ho
  unfold rqV
  go_enter Tryz.func74, Tryz.ntmps74
  go_wp2
  go_ret
  exact ⟨rfl, G.out⟩
theorem rightS_any (q : Rq) (ho : q.Ok) (w : World) : Calls Tryz.prog 41 #[.agg partS.toArray, rqV q] w fun e w' => e = .returned (.bool (inP (hS q.k) q.s 65535)) ∧ w.grownBy w' none := by
  obtain ⟨ba, bb, bg⟩ := two_boxes w partS (rqC q) 100 42
  have HB := hide (And.intro ba (And.intro bb bg))
  have qn := numS_any q ho ((w.alloc (.cells partS.toArray 100)).alloc (.cells (rqC q).toArray 42))
  have qh := hasSeat_any q.k
  unfold partS at ba
  unfold rqC at bb
  obtain ⟨c0, c1, c2, c3, c4⟩ := box5 ba
  obtain ⟨d0, d1, d2, d3, d4⟩ := box5 bb
  obtain ⟨res, hres⟩ : ∃ res, res = inP (hS q.k) q.s 65535 := ⟨_, rfl⟩
  rw [← hres]
  have HR := hide hres
  clear hres ba bb bg ho
  unfold partS rqV at *
  unfold rqC at c0 c1 c2 c3 c4 qn HB
  generalize hS q.k = hb at *
  go_enter Tryz.func41, Tryz.ntmps41
  go_wp2_with fail
  generalize ((w.alloc (.cells [Value.int .i64 65535, .func (.func 73) #[] #[], .func (.func 74) #[] #[], .func (.func 75) #[] #[], .func (.func 77) #[] #[]].toArray 100)).alloc (.cells [Value.int .i64 q.k, .int .u32 q.t, .int .u32 q.i, .int .i64 q.s, .int .i64 q.u].toArray 42)) = w1 at *
  refine qn.mono ?_
  clear qn
  rintro e w2 ⟨rfl, hg⟩
  have B1 := (hg.block _ (row_lt HB.out.1) (by simp)).trans HB.out.1
  have B2 := (hg.block _ (row_lt HB.out.2.1) (by simp)).trans HB.out.2.1
  have HG := hide (grown_trans HB.out.2.2 hg)
  clear c0 c1 c2 c3 c4 d0 d1 d2 d3 d4 hg
  obtain ⟨c0, c1, c2, c3, c4⟩ := box5 B1
  obtain ⟨d0, d1, d2, d3, d4⟩ := box5 B2
  clear B1 B2
  go_wp2_with fail
  refine (qh w2).mono ?_
  clear qh
  rintro e wx ⟨rfl, hw⟩
  obtain rfl := hw.symm
  clear hw
  cases hb with
  | false =>
    have HR2 : Hid (res = decide (q.s = 0)) := HR.out
    by_cases h0 : q.s = 0
    · have e1 : (q.s == 0) = true := by simpa using h0
      have HR3 : Hid (res = true) := HR2.out.trans (decide_eq_true h0)
      clear h0
      go_wp2
      go_ret
      exact ⟨by rw [HR3.out]; rfl, HG.out⟩
    · have e1 : (q.s == 0) = false := by simpa using h0
      have e2 : decide (q.s = 0) = false := by simpa using h0
      have HR3 : Hid (res = false) := HR2.out.trans (decide_eq_false h0)
      clear h0
      go_wp2
      go_ret
      exact ⟨by rw [HR3.out]; rfl, HG.out⟩
  | true =>
    have HR2 : Hid (res = decide (0 ≤ q.s ∧ q.s ≤ 65535)) := HR.out
    by_cases h1 : 0 ≤ q.s
    · by_cases h2 : q.s ≤ 65535
      · have HR3 : Hid (res = true) := HR2.out.trans (decide_eq_true ⟨h1, h2⟩)
        go_wp2
        go_ret
        exact ⟨by rw [HR3.out]; rfl, HG.out⟩
      · have HR3 : Hid (res = false) := HR2.out.trans (decide_eq_false (fun h => h2 h.2))
        have h3 : decide (q.s ≤ 65535) = false := decide_eq_false h2
        go_wp2
        go_ret
        exact ⟨by rw [HR3.out]; rfl, HG.out⟩
    · have HR3 : Hid (res = false) := HR2.out.trans (decide_eq_false (fun h => h1 h.1))
      go_wp2
      go_ret
      exact ⟨by rw [HR3.out]; rfl, HG.out⟩
def partL : List Value := [.int .i64 9223372036854775807, .func (.func 79) #[] #[], .func (.func 80) #[] #[], .func (.func 81) #[] #[], .func (.func 83) #[] #[]]
theorem numL_any (q : Rq) (ho : q.Ok) (w : World) : Calls Tryz.prog 80 #[rqV q] w fun e w' => e = .returned (.int .i64 q.u) ∧ w.grownBy w' none := by
  have W1 : IntKind.i64.wrap q.u = q.u := by rw [IntKind.wrap_i64]; have := ho.u0; have := ho.u1; omega
  have G := hide (World.grownBy_alloc w (.cells #[.int .i64 q.k, .int .u32 q.t, .int .u32 q.i, .int .i64 q.s, .int .i64 q.u] 42) none)
  obtain ⟨c0, c1, c2, c3, c4⟩ := box5 (heap_alloc_new w (.cells [Value.int .i64 q.k, .int .u32 q.t, .int .u32 q.i, .int .i64 q.s, .int .i64 q.u].toArray 42))
  clear ho
  unfold rqV
  go_enter Tryz.func80, Tryz.ntmps80
  go_wp2
  go_ret
  exact ⟨rfl, G.out⟩
theorem rightL_any (q : Rq) (ho : q.Ok) (w : World) : Calls Tryz.prog 41 #[.agg partL.toArray, rqV q] w fun e w' => e = .returned (.bool (inP (hL q.k) q.u 9223372036854775807)) ∧ w.grownBy w' none := by
  obtain ⟨ba, bb, bg⟩ := two_boxes w partL (rqC q) 100 42
  have HB := hide (And.intro ba (And.intro bb bg))
  have qn := numL_any q ho ((w.alloc (.cells partL.toArray 100)).alloc (.cells (rqC q).toArray 42))
  have qh := hasTtl_any q.k
  unfold partL at ba
  unfold rqC at bb
  obtain ⟨c0, c1, c2, c3, c4⟩ := box5 ba
  obtain ⟨d0, d1, d2, d3, d4⟩ := box5 bb
  obtain ⟨res, hres⟩ : ∃ res, res = inP (hL q.k) q.u 9223372036854775807 := ⟨_, rfl⟩
  rw [← hres]
  have HR := hide hres
  clear hres ba bb bg ho
  unfold partL rqV at *
  unfold rqC at c0 c1 c2 c3 c4 qn HB
  generalize hL q.k = hb at *
  go_enter Tryz.func41, Tryz.ntmps41
  go_wp2_with fail
  generalize ((w.alloc (.cells [Value.int .i64 9223372036854775807, .func (.func 79) #[] #[], .func (.func 80) #[] #[], .func (.func 81) #[] #[], .func (.func 83) #[] #[]].toArray 100)).alloc (.cells [Value.int .i64 q.k, .int .u32 q.t, .int .u32 q.i, .int .i64 q.s, .int .i64 q.u].toArray 42)) = w1 at *
  refine qn.mono ?_
  clear qn
  rintro e w2 ⟨rfl, hg⟩
  have B1 := (hg.block _ (row_lt HB.out.1) (by simp)).trans HB.out.1
  have B2 := (hg.block _ (row_lt HB.out.2.1) (by simp)).trans HB.out.2.1
  have HG := hide (grown_trans HB.out.2.2 hg)
  clear c0 c1 c2 c3 c4 d0 d1 d2 d3 d4 hg
  obtain ⟨c0, c1, c2, c3, c4⟩ := box5 B1
  obtain ⟨d0, d1, d2, d3, d4⟩ := box5 B2
  clear B1 B2
  go_wp2_with fail
  refine (qh w2).mono ?_
  clear qh
  rintro e wx ⟨rfl, hw⟩
  obtain rfl := hw.symm
  clear hw
  cases hb with
  | false =>
    have HR2 : Hid (res = decide (q.u = 0)) := HR.out
    by_cases h0 : q.u = 0
    · have e1 : (q.u == 0) = true := by simpa using h0
      have HR3 : Hid (res = true) := HR2.out.trans (decide_eq_true h0)
      clear h0
      go_wp2
      go_ret
      exact ⟨by rw [HR3.out]; rfl, HG.out⟩
    · have e1 : (q.u == 0) = false := by simpa using h0
      have e2 : decide (q.u = 0) = false := by simpa using h0
      have HR3 : Hid (res = false) := HR2.out.trans (decide_eq_false h0)
      clear h0
      go_wp2
      go_ret
      exact ⟨by rw [HR3.out]; rfl, HG.out⟩
  | true =>
    have HR2 : Hid (res = decide (0 ≤ q.u ∧ q.u ≤ 9223372036854775807)) := HR.out
    by_cases h1 : 0 ≤ q.u
    · by_cases h2 : q.u ≤ 9223372036854775807
      · have HR3 : Hid (res = true) := HR2.out.trans (decide_eq_true ⟨h1, h2⟩)
        go_wp2
        go_ret
        exact ⟨by rw [HR3.out]; rfl, HG.out⟩
      · have HR3 : Hid (res = false) := HR2.out.trans (decide_eq_false (fun h => h2 h.2))
        have h3 : decide (q.u ≤ 9223372036854775807) = false := decide_eq_false h2
        go_wp2
        go_ret
        exact ⟨by rw [HR3.out]; rfl, HG.out⟩
    · have HR3 : Hid (res = false) := HR2.out.trans (decide_eq_false (fun h => h1 h.1))
      go_wp2
      go_ret
      exact ⟨by rw [HR3.out]; rfl, HG.out⟩
end Go.Proofs.YtjfhilignbeboabGreatDoor.Rs
/- requests: Check. -/
namespace Go.Proofs.YtjfhilignbeboabGreatDoor.Rs
open Go.RowKit
attribute [local go_sem ↓] Go.wp_at_zero Go.wp_at_succ
/-- A request in a box of the call's own. -/
structure CkS (w wr : World) (q : Rq) : Prop where
  box : wr.heap[w.heap.size]? = some (.cells [Value.int .i64 q.k, .int .u32 q.t, .int .u32 q.i, .int .i64 q.s, .int .i64 q.u].toArray 42 (0, 0))
  gr : w.grownBy wr none
theorem CkS.then {w wr wr' : World} {q : Rq} (h : CkS w wr q) (hg : wr.grownBy wr' none) : CkS w wr' q := ⟨(hg.block _ (row_lt h.box) (by simp)).trans h.box, grown_trans h.gr hg⟩
theorem CkS.begin (w : World) (q : Rq) : CkS w (w.alloc (.cells #[.int .i64 q.k, .int .u32 q.t, .int .u32 q.i, .int .i64 q.s, .int .i64 q.u] 42)) q := ⟨heap_alloc_new w _, World.grownBy_alloc w _ none⟩
theorem index0 (w : World) : (Instr.index 101 (.agg #[.int .i64 4294967295, .func (.func 67) #[] #[], .func (.func 68) #[] #[], .func (.func 69) #[] #[], .func (.func 71) #[] #[], .int .i64 65535, .func (.func 73) #[] #[], .func (.func 74) #[] #[], .func (.func 75) #[] #[], .func (.func 77) #[] #[], .int .i64 9223372036854775807, .func (.func 79) #[] #[], .func (.func 80) #[] #[], .func (.func 81) #[] #[], .func (.func 83) #[] #[]]) (.int .i64 0)).run Tryz.prog w = .ok (.agg #[.int .i64 4294967295, .func (.func 67) #[] #[], .func (.func 68) #[] #[], .func (.func 69) #[] #[], .func (.func 71) #[] #[]]) w := by simp [Instr.index, run_underlying Tryz.underlying101, asIntOf, go_sem]
theorem index1 (w : World) : (Instr.index 101 (.agg #[.int .i64 4294967295, .func (.func 67) #[] #[], .func (.func 68) #[] #[], .func (.func 69) #[] #[], .func (.func 71) #[] #[], .int .i64 65535, .func (.func 73) #[] #[], .func (.func 74) #[] #[], .func (.func 75) #[] #[], .func (.func 77) #[] #[], .int .i64 9223372036854775807, .func (.func 79) #[] #[], .func (.func 80) #[] #[], .func (.func 81) #[] #[], .func (.func 83) #[] #[]]) (.int .i64 1)).run Tryz.prog w = .ok (.agg #[.int .i64 65535, .func (.func 73) #[] #[], .func (.func 74) #[] #[], .func (.func 75) #[] #[], .func (.func 77) #[] #[]]) w := by simp [Instr.index, run_underlying Tryz.underlying101, asIntOf, go_sem]
theorem index2 (w : World) : (Instr.index 101 (.agg #[.int .i64 4294967295, .func (.func 67) #[] #[], .func (.func 68) #[] #[], .func (.func 69) #[] #[], .func (.func 71) #[] #[], .int .i64 65535, .func (.func 73) #[] #[], .func (.func 74) #[] #[], .func (.func 75) #[] #[], .func (.func 77) #[] #[], .int .i64 9223372036854775807, .func (.func 79) #[] #[], .func (.func 80) #[] #[], .func (.func 81) #[] #[], .func (.func 83) #[] #[]]) (.int .i64 2)).run Tryz.prog w = .ok (.agg #[.int .i64 9223372036854775807, .func (.func 79) #[] #[], .func (.func 80) #[] #[], .func (.func 81) #[] #[], .func (.func 83) #[] #[]]) w := by simp [Instr.index, run_underlying Tryz.underlying101, asIntOf, go_sem]
theorem chk_of {q : Rq} {b : Bool} (h : q.mayB = b) : chk q = if b = true then 0 else 200 := by
  subst h
  rfl
set_option maxRecDepth 20000 in
set_option maxHeartbeats 4000000 in
theorem check_any (q : Rq) (ho : q.Ok) (w : World) : Calls Tryz.prog 18 #[rqV q] w fun e w' => e = .returned (.int .i64 (chk q)) ∧ w.grownBy w' none := by
  obtain ⟨res, hres⟩ : ∃ res, res = chk q := ⟨_, rfl⟩
  rw [← hres]
  have HR := hide hres
  clear hres
  have S0 := hide (CkS.begin w q)
  have qk := isKind_any q.k
  have qI := rightI_any q ho
  have qS := rightS_any q ho
  have qL := rightL_any q ho
  have hm : q.mayB = (decide (1 ≤ q.k ∧ q.k ≤ 10) && (inP (hI q.k) q.i 4294967295 && (inP (hS q.k) q.s 65535 && inP (hL q.k) q.u 9223372036854775807))) := rfl
  have HM := hide hm
  clear hm ho
  generalize decide (1 ≤ q.k ∧ q.k ≤ 10) = bk at *
  generalize inP (hI q.k) q.i 4294967295 = bI at *
  generalize inP (hS q.k) q.s 65535 = bS at *
  generalize inP (hL q.k) q.u 9223372036854775807 = bL at *
  unfold rqV partI at qI
  unfold rqV partS at qS
  unfold rqV partL at qL
  unfold rqV
  obtain ⟨c0, c1, c2, c3, c4⟩ := box5 S0.out.box
  go_enter Tryz.func18, Tryz.ntmps18
  go_wp2_with fail
  generalize w.alloc (.cells #[.int .i64 q.k, .int .u32 q.t, .int .u32 q.i, .int .i64 q.s, .int .i64 q.u] 42) = w1 at *
  refine (qk w1).mono ?_
  clear qk
  rintro e wx ⟨rfl, hw⟩
  obtain rfl := hw.symm
  clear hw
  cases bk with
  | false =>
    have HZ : Hid (res = 200) := by rw [HR.out, chk_of HM.out]; rfl
    go_wp2
    go_ret
    exact ⟨by rw [HZ.out]; rfl, S0.out.gr⟩
  | true =>
    go_wp2_with fail
    refine (parts_any w1).mono ?_
    rintro e w2 ⟨rfl, hg⟩
    have S1 := hide (S0.out.then hg)
    clear hg S0 c0 c1 c2 c3 c4
    unfold partsV
    go_wp2_with fail
    have x0 := index0
    have x1 := index1
    have x2 := index2
    refine wp_loop_rounds 4 ?_
    rw [rounds_succ]
    have TI := hide (S1.out.then (World.grownBy_alloc w2 (.cells #[.int .i64 4294967295, .func (.func 67) #[] #[], .func (.func 68) #[] #[], .func (.func 69) #[] #[], .func (.func 71) #[] #[]] 100) none))
    obtain ⟨c0, c1, c2, c3, c4⟩ := box5 TI.out.box
    have qIw := qI (w2.alloc (.cells #[.int .i64 4294967295, .func (.func 67) #[] #[], .func (.func 68) #[] #[], .func (.func 69) #[] #[], .func (.func 71) #[] #[]] 100))
    clear qI S1
    go_wp2_with fail
    generalize w2.alloc (.cells #[.int .i64 4294967295, .func (.func 67) #[] #[], .func (.func 68) #[] #[], .func (.func 69) #[] #[], .func (.func 71) #[] #[]] 100) = vI at *
    refine qIw.mono ?_
    clear qIw
    rintro e wI ⟨rfl, hg⟩
    have SI := hide (TI.out.then hg)
    clear hg TI c0 c1 c2 c3 c4
    cases bI with
    | false =>
      have HZ : Hid (res = 200) := by rw [HR.out, chk_of HM.out]; rfl
      go_wp2
      go_ret
      exact ⟨by rw [HZ.out]; rfl, SI.out.gr⟩
    | true =>
      go_wp2_with fail
      rw [rounds_succ]
      have TS := hide (SI.out.then (World.grownBy_alloc wI (.cells #[.int .i64 65535, .func (.func 73) #[] #[], .func (.func 74) #[] #[], .func (.func 75) #[] #[], .func (.func 77) #[] #[]] 100) none))
      obtain ⟨c0, c1, c2, c3, c4⟩ := box5 TS.out.box
      have qSw := qS (wI.alloc (.cells #[.int .i64 65535, .func (.func 73) #[] #[], .func (.func 74) #[] #[], .func (.func 75) #[] #[], .func (.func 77) #[] #[]] 100))
      clear qS SI
      go_wp2_with fail
      generalize wI.alloc (.cells #[.int .i64 65535, .func (.func 73) #[] #[], .func (.func 74) #[] #[], .func (.func 75) #[] #[], .func (.func 77) #[] #[]] 100) = vS at *
      refine qSw.mono ?_
      clear qSw
      rintro e wS ⟨rfl, hg⟩
      have SS := hide (TS.out.then hg)
      clear hg TS c0 c1 c2 c3 c4
      cases bS with
      | false =>
        have HZ : Hid (res = 200) := by rw [HR.out, chk_of HM.out]; rfl
        go_wp2
        go_ret
        exact ⟨by rw [HZ.out]; rfl, SS.out.gr⟩
      | true =>
        go_wp2_with fail
        rw [rounds_succ]
        have TL := hide (SS.out.then (World.grownBy_alloc wS (.cells #[.int .i64 9223372036854775807, .func (.func 79) #[] #[], .func (.func 80) #[] #[], .func (.func 81) #[] #[], .func (.func 83) #[] #[]] 100) none))
        obtain ⟨c0, c1, c2, c3, c4⟩ := box5 TL.out.box
        have qLw := qL (wS.alloc (.cells #[.int .i64 9223372036854775807, .func (.func 79) #[] #[], .func (.func 80) #[] #[], .func (.func 81) #[] #[], .func (.func 83) #[] #[]] 100))
        clear qL SS
        go_wp2_with fail
        generalize wS.alloc (.cells #[.int .i64 9223372036854775807, .func (.func 79) #[] #[], .func (.func 80) #[] #[], .func (.func 81) #[] #[], .func (.func 83) #[] #[]] 100) = vL at *
        refine qLw.mono ?_
        clear qLw
        rintro e wL ⟨rfl, hg⟩
        have SL := hide (TL.out.then hg)
        clear hg TL c0 c1 c2 c3 c4
        cases bL with
        | false =>
          have HZ : Hid (res = 200) := by rw [HR.out, chk_of HM.out]; rfl
          go_wp2
          go_ret
          exact ⟨by rw [HZ.out]; rfl, SL.out.gr⟩
        | true =>
          go_wp2_with fail
          have HZ : Hid (res = 0) := by rw [HR.out, chk_of HM.out]; rfl
          rw [rounds_succ]
          go_wp2
          go_ret
          exact ⟨by rw [HZ.out]; rfl, SL.out.gr⟩
end Go.Proofs.YtjfhilignbeboabGreatDoor.Rs
/- Replies as bytes: numbers alone, without the program. -/
namespace Go.Proofs.YtjfhilignbeboabGreatDoor.Rt
/-- A reply: tag, kind, error, id, seat, until, count. -/
structure Ry where
  t : Int
  k : Int
  e : Int
  i : Int
  s : Int
  u : Int
  c : Int
/-- Its numbers are such. -/
structure Ry.Ok (q : Ry) : Prop where
  t0 : 0 ≤ q.t
  t1 : q.t < 4294967296
  k0 : -9223372036854775808 ≤ q.k
  k1 : q.k ≤ 9223372036854775807
  e0 : -9223372036854775808 ≤ q.e
  e1 : q.e ≤ 9223372036854775807
  i0 : 0 ≤ q.i
  i1 : q.i < 4294967296
  s0 : -9223372036854775808 ≤ q.s
  s1 : q.s ≤ 9223372036854775807
  u0 : -9223372036854775808 ≤ q.u
  u1 : q.u ≤ 9223372036854775807
  c0 : -9223372036854775808 ≤ q.c
  c1 : q.c ≤ 9223372036854775807
/-- What a reply of a kind and an error has. -/
def hI (k e : Int) : Bool := decide (e = 0 ∧ (k = 1 ∨ k = 6))
def hS (k e : Int) : Bool := decide (e = 0 ∧ (k = 4 ∨ k = 5))
def hU (k e : Int) : Bool := decide (e = 0 ∧ (k = 1 ∨ k = 5 ∨ k = 6 ∨ k = 7))
def hC (k e : Int) : Bool := decide (e = 0 ∧ (k = 8 ∨ k = 9 ∨ k = 10))
/-- A number in its place. -/
def inP (b : Bool) (n m : Int) : Bool := if b then decide (0 ≤ n ∧ n ≤ m) else decide (n = 0)
/-- It may be as a reply of a kind. -/
def Ry.kindB (q : Ry) : Bool := decide (1 ≤ q.k ∧ q.k ≤ 10) && (decide (0 ≤ q.e ∧ q.e ≤ 65535) && (inP (hI q.k q.e) q.i 4294967295 && (inP (hS q.k q.e) q.s 65535 && (inP (hU q.k q.e) q.u 9223372036854775807 && inP (hC q.k q.e) q.c 65535))))
/-- It is what no request is answered with. -/
def Ry.noneB (q : Ry) : Bool := decide (q.t = 0 ∧ q.k = 0 ∧ q.e = 200 ∧ q.i = 0 ∧ q.s = 0 ∧ q.u = 0 ∧ q.c = 0)
def Ry.mayB (q : Ry) : Bool := q.kindB || q.noneB
def Ry.May (q : Ry) : Prop := q.mayB = true
instance (q : Ry) : Decidable q.May := by unfold Ry.May; exact inferInstance
/-- What Check answers. -/
def chk (q : Ry) : Int := if q.May then 0 else 210
def zRy : Ry := ⟨0, 0, 0, 0, 0, 0, 0⟩
end Go.Proofs.YtjfhilignbeboabGreatDoor.Rt
