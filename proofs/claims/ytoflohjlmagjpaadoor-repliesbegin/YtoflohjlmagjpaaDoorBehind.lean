/- The contract of a Writer's inner function that puts a row of bytes behind what is there. -/
import Derived.Test.YtoflohjlmagjpaaDoorProg
import Derived.Test.YtoflohjlmagjpaaDoorBase
import Derived.Deep.LoopGhost
import Derived.Deep.RegionHeld3
import Derived.Deep.MidRow
import Derived.Deep.DrawnRows
namespace Go.Proofs.YtoflohjlmagjpaaDoor
open Go.RowKit
attribute [local go_sem ↓] Go.wp_at_zero Go.wp_at_succ
theorem Tryd.size5 : (Tryd.prog.info? 5).map (·.size) = some 1 := by kernel_rfl
theorem Tryd.size44 : (Tryd.prog.info? 44).map (·.size) = some 64 := by kernel_rfl
theorem sliceAt_open (g r : Nat) (h : r < 64) (w : World) : (Instr.sliceAt 44 (.pointer (some ⟨g, 1, none⟩)) (some (.int .i64 (r : Int))) none none).run Tryd.prog w = .ok (.slice (some ⟨g, 1 + r, none⟩) (64 - r) (64 - r)) w := by
  have hc : r ≤ 64 := by omega
  have hne : ¬ (64 = r) := by omega
  simp [Instr.sliceAt, Instr.sureAddr, run_underlying Tryd.underlying44, Instr.sliceBounds, Instr.sliceBound, asIntOf, hc, hne, Addr.add_mid]
theorem slice_from (ao : Option Addr) (len cap n : Nat) (h : n ≤ len) (w : World) : (Instr.slice 27 (.slice ao len cap) (some (.int .i64 (n : Int))) none none).run Tryd.prog w = .ok (.slice (cutA ao n cap) (len - n) (cap - n)) w := by
  simp [Instr.slice, run_underlying Tryd.underlying27, Instr.sliceBounds, Instr.sliceBound, asIntOf, h, cutA]

theorem zero75 : Tryd.zeroCells94.size = 65 := by kernel_rfl
theorem wp_load51 {x : Operand} {dst : Option Tmp} {ty : TypeId} {pos : String} {A : Array Edge} {gd : Option (Nat × Bool)} {a : Act} {w : World} {K : Act → World → Prop} {Q : Exit → Act → World → Prop} (hx : isPtr (a.eval x) = true) (hr : rangeOk w (blkOf (a.eval x)) (offOf (a.eval x)) 64) :
    Oper.wp Tryd.prog { dst := dst, op := .load 44 x, type := ty, pos := pos, after := A, guard := gd } a w K Q = K (a.put dst (.agg (rangeOf w (blkOf (a.eval x)) (offOf (a.eval x)) 64).toArray)) w :=
  wp_load_range 44 x rfl _ 64 Tryd.underlying44 rfl Tryd.size44 hx hr
attribute [local go_sem ↓] wp_load51
attribute [local go_sem] blkOf_ptr offOf_ptr isPtr_ptr

set_option maxHeartbeats 1000000 in
set_option maxRecDepth 100000 in
theorem behind_any (g n : Nat) (bs xs : List Int) (ao : Option Addr) (cap : Nat) (w : World) (hW : WrAt w g bs) (hn : xs.length = n) (hs : At w ao xs) (hoff : Off ao g) (hnc : n ≤ cap) (hcm : cap ≤ maxLen) (hL : bs.length + n ≤ 4611686018427387904) :
    Calls Tryd.prog 38 #[.pointer (some ⟨g, 0, none⟩), .slice ao n cap] w fun e w' => e = .returned (.tuple #[]) ∧ WrAt w' g (bs ++ xs) ∧ w.grownBy w' (some g) := by
  unfold maxLen at hcm
  go_enter Tryd.func38, Tryd.ntmps38
  go_wp2
  go_loopg [1] n (fun k row wr => ∃ m ao' cap', k + m = n ∧ row = .slice ao' k cap' ∧ k ≤ cap' ∧ cap' ≤ cap ∧ Off ao' g ∧ At wr ao' (xs.drop m) ∧ WrAt wr g (bs ++ xs.take m) ∧ w.grownBy wr (some g))
  case atStart => exact ⟨0, ao, cap, by omega, rfl, hnc, Nat.le_refl _, hoff, by simpa using hs, by simpa using hW, grown_refl _ _⟩
  case round =>
    obtain ⟨m, ao', cap', hkm, rfl, hkc, hcc, ho, hat, hwr, hgr⟩ := hrel
    clear hW hs hoff
    by_cases hk : 0 < gk
    · obtain ⟨ys, hys⟩ : ∃ ys, ys = xs.drop m := ⟨_, rfl⟩
      obtain ⟨bs', hbs'⟩ : ∃ b, b = bs ++ xs.take m := ⟨_, rfl⟩
      have hyl : ys.length = gk := by rw [hys]; simp; omega
      have hbl : bs'.length + gk ≤ 4611686018427387904 := by rw [hbs']; simp; omega
      rw [← hys] at hat
      rw [← hbs'] at hwr
      have HY : Hid (ys = xs.drop m ∧ bs' = bs ++ xs.take m) := ⟨hys, hbs'⟩
      clear hys hbs'
      obtain ⟨v, cs, op, hb, hl, hc, he⟩ := hwr
      obtain ⟨u, rfl⟩ := hc.ptr
      obtain ⟨L, hLe⟩ : ∃ L, L = bs'.length := ⟨_, rfl⟩
      obtain ⟨r, hrL⟩ : ∃ r, r = L % 64 := ⟨_, rfl⟩
      have hr64 : r < 64 := by omega
      have hr1 : (L : Int) % 64 = (r : Int) := by rw [hrL]; simp
      have hr2 : (L : Int).tmod 64 = (r : Int) := by rw [hrL]; simp [Int.tmod_eq_emod_of_nonneg]
      have hLm : (L : Int) ≤ 4611686018427387904 := by omega
      obtain ⟨q, hq⟩ : ∃ q, q = Nat.min gk (64 - r) := ⟨_, rfl⟩
      have hq1 : q ≤ gk := by rw [hq]; exact Nat.min_le_left _ _
      have hq2 : q ≤ 64 - r := by rw [hq]; exact Nat.min_le_right _ _
      have hq0 : 0 < q := by rw [hq]; simp only [Nat.min_def]; split <;> omega
      obtain ⟨X, hX⟩ : ∃ X, X = ys.take q := ⟨_, rfl⟩
      have hXl : X.length = q := by rw [hX]; simp; omega
      have hXa : At wr ao' X := by rw [hX]; exact hat.take q
      obtain ⟨XV, hXV⟩ : ∃ XV, XV = X.map (Value.int .u8) := ⟨_, rfl⟩
      have hXVl : XV.length = q := by rw [hXV]; simp [hXl]
      have hXp : 0 < XV.length → ∃ ad, ao' = some ad ∧ ∀ j u, XV[j]? = some u → wr.drew.cell? (ad.add j) = some u := by
        intro hp
        have hx0 : 0 < X.length := by omega
        obtain ⟨a, ha, _⟩ := hXa 0 X[0] (by simp [hx0])
        refine ⟨a, ha, fun j u hu => ?_⟩
        rw [hXV, List.getElem?_map] at hu
        cases hj : X[j]? with
        | none => simp [hj] at hu
        | some x =>
          simp [hj] at hu
          obtain ⟨a', ha', hc'⟩ := hXa j x hj
          rw [ha] at ha'; cases ha'
          rw [← hu]; simpa using hc'
      have hX1 : ∀ u ∈ XV, u.oneCell' = true := by
        intro u hu; rw [hXV] at hu; simp at hu; obtain ⟨x, _, rfl⟩ := hu; rfl
      have hmin : XV.length = Nat.min gk (64 - r) := by rw [hXVl, hq]
      have hfit : 1 + r + XV.length ≤ (wrow (.pointer u) op L).length := by rw [wrow_length, hl, hXVl]; omega
      have hbD : wr.drew.heap[g]? = some (.cells (wrow (.pointer u) op L).toArray 46 (0, 0)) := by rw [hLe]; exact hb
      have c65 : wr.cell? ⟨g, 65, none⟩ = some (.int .i64 L) := by rw [cell_row hb, wrow_last _ _ _ hl, hLe]
      have hsl : ∀ w, (Instr.sliceAt 44 (.pointer (some ⟨g, 1, none⟩)) (some (.int .i64 (r : Int))) none none).run Tryd.prog w = .ok (.slice (some ⟨g, 1 + r, none⟩) (64 - r) (64 - r)) w := sliceAt_open g r hr64
      have hcut : ∀ w, (Instr.slice 27 (.slice ao' gk cap') (some (.int .i64 (q : Int))) none none).run Tryd.prog w = .ok (.slice (cutA ao' q cap') (gk - q) (cap' - q)) w := slice_from ao' gk cap' q hq1
      have HB : Hid (L = bs'.length ∧ r = L % 64 ∧ q = Nat.min gk (64 - r) ∧ X = ys.take q ∧ XV = X.map (Value.int .u8) ∧ X.length = q ∧ bs' = cs.reverse.flatten ++ op.take (bs'.length % 64)) := ⟨hLe, hrL, hq, hX, hXV, hXl, he⟩
      have HXl : Hid (XV.length = q) := hXVl
      have HK : Hid (∀ w2 : World, w2.heap[g]? = some (.cells (splice (wrow (.pointer u) op L) (1 + r) XV).toArray 46 (0, 0)) → w2.heap[g]? = some (.cells (wrow (.pointer u) (splice op r X) L).toArray 46 (0, 0)) ∧ w2.cell? ⟨g, 65, none⟩ = some (.int .i64 L) ∧ w2.frozen? ⟨g, 65, none⟩ = false) := by
        intro w2 h2
        rw [hXV, wrow_splice _ _ _ _ _ (by omega)] at h2
        exact ⟨h2, by rw [cell_row h2, wrow_last _ _ _ (by rw [length_splice _ _ _ (by omega)]; exact hl)], free_row h2 _⟩
      have Hmin : Hid (XV.length = Nat.min gk (64 - r)) := hmin
      have Hfit : Hid (1 + r + XV.length ≤ (wrow (.pointer u) op L).length) := hfit
      have HbD : Hid (wr.drew.heap[g]? = some (.cells (wrow (.pointer u) op L).toArray 46 (0, 0))) := hbD
      have HXp : Hid (0 < XV.length → ∃ ad, ao' = some ad ∧ ∀ j u, XV[j]? = some u → wr.drew.cell? (ad.add j) = some u) := hXp
      have HX1 : Hid (∀ u ∈ XV, u.oneCell' = true) := hX1
      have Hc : Hid (Chain wr (.pointer u) cs) := hc
      have Hat : Hid (At wr ao' ys ∧ Off ao' g ∧ w.grownBy wr (some g) ∧ ys.length = gk ∧ op.length = 64) := ⟨hat, ho, hgr, hyl, hl⟩
      have Hb : Hid (wr.heap[g]? = some (.cells (wrow (.pointer u) op bs'.length).toArray 46 (0, 0))) := hb
      have hk' : (0 : Int) < (gk : Int) := by omega
      clear hLe hrL hq hX hXV hXl he hXVl hmin hfit hbD hXp hX1 hc hat ho hgr hyl hXa hl hb hn
      go_wp2
      go_region_held3 (fun w' => w'.cell? ⟨g, 65, none⟩ = some (.int .i64 L)) (go_keep) ((refine step_copy_grown rfl (.tmp 18) (.tmp 19) 27 27 rfl 5 Tryd.underlying27 Tryd.size5 _ _ _ _ _ _ (by rfl) (by rfl) g (1 + r) (wrow (.pointer u) op L) 46 HbD.out XV Hmin.out (fun hp => ⟨rfl, HXp.out hp⟩) Hfit.out HX1.out ?_; rw [HXl.out]; intro w2 H2 hg2; obtain ⟨H2', c65', f65⟩ := HK.out w2 H2.out; clear H2; have H2 := hide H2'; clear H2'))
      by_cases hS : r + q = 64
      · have hM : ((L : Int) + (q : Int)) % 64 = 0 := by omega
        obtain ⟨OV, hOV⟩ : ∃ OV, OV = (splice op r X).map (Value.int .u8) := ⟨_, rfl⟩
        have hOVl : OV.length = 64 := by obtain ⟨_, _, _, _, _, hx, _⟩ := HB.out; obtain ⟨_, _, _, _, ho⟩ := Hat.out; rw [hOV, List.length_map, length_splice _ _ _ (by omega)]; exact ho
        have hOV1 : ∀ u ∈ OV, u.oneCell' = true := by
          intro u hu; rw [hOV] at hu; simp at hu; obtain ⟨x, _, rfl⟩ := hu; rfl
        have h3 : (w2.setCell ⟨g, 65, none⟩ (.int .i64 ((L : Int) + (q : Int)))).heap[g]? = some (.cells (wrow (.pointer u) (splice op r X) (L + q)).toArray 46 (0, 0)) := by
          rw [row_setCell H2.out, ← Int.natCast_add, wrow_set_last]
          rw [hOV] at hOVl; simpa using hOVl
        have d0 : (w2.setCell ⟨g, 65, none⟩ (.int .i64 ((L : Int) + (q : Int)))).cell? ⟨g, 0, none⟩ = some (.pointer u) := by rw [cell_row h3, wrow_zero]
        have f0 : (w2.setCell ⟨g, 65, none⟩ (.int .i64 ((L : Int) + (q : Int)))).frozen? ⟨g, 0, none⟩ = false := free_row h3 _
        have rng : (w2.setCell ⟨g, 65, none⟩ (.int .i64 ((L : Int) + (q : Int)))).rangeAt g 1 OV := by
          intro j y hy
          rw [cell_row h3]
          rw [hOV, List.getElem?_map] at hy
          cases hj : (splice op r X)[j]? with
          | none => simp [hj] at hy
          | some x =>
            simp [hj] at hy
            obtain ⟨hlt, hx⟩ := List.getElem?_eq_some_iff.1 hj
            rw [wrow_open _ _ _ _ hlt, ← hy, hx]
        have k0 : ∀ o, ((w2.setCell ⟨g, 65, none⟩ (.int .i64 ((L : Int) + (q : Int)))).alloc o).cell? ⟨g, 0, none⟩ = some (.pointer u) := fun o => by
          rw [World.cell?_alloc_lt _ _ _ (row_lt h3)]; exact d0
        have kf : ∀ o, ((w2.setCell ⟨g, 65, none⟩ (.int .i64 ((L : Int) + (q : Int)))).alloc o).frozen? ⟨g, 0, none⟩ = false := fun o => by
          rw [World.frozen?_alloc_old _ _ _ (Nat.ne_of_lt (row_lt h3))]; exact f0
        have HOV : Hid (OV = (splice op r X).map (Value.int .u8)) := hOV
        have H3 := hide h3
        clear hOV h3
        go_wp2
        have rok : rangeOk (w2.setCell ⟨g, 65, none⟩ (.int .i64 ((L : Int) + (q : Int)))).drew g 1 64 := rangeOk_of (w := (w2.setCell ⟨g, 65, none⟩ (.int .i64 ((L : Int) + (q : Int)))).drew) rng hOVl
        have rof : rangeOf (w2.setCell ⟨g, 65, none⟩ (.int .i64 ((L : Int) + (q : Int)))).drew g 1 64 = OV := rangeOf_eq (w := (w2.setCell ⟨g, 65, none⟩ (.int .i64 ((L : Int) + (q : Int)))).drew) rng hOVl
        clear rng
        go_region_law (fail)
        all_goals
          go_wp2
          go_roundg (gk - q)
          case measure => omega
          case rel =>
            obtain ⟨hys, hbs'⟩ := HY.out
            obtain ⟨hLe, hrL, hq, hX, hXV, hXl, he⟩ := HB.out
            obtain ⟨hat, ho, hgr, hyl, hl⟩ := Hat.out
            subst hLe; subst hrL
            have hF := fold_block Tryd.zeroCells94 (.pointer u) OV zero75 hOVl
            obtain ⟨e1, e2, e3⟩ := seal_world H3.out (s := w2.heap.size) (by simp [World.setCell]) (hF.trans (by rw [HOV.out]))
            have hg4 := grown_trans (grown_trans (grown_trans (grown_drew wr (some g)) hg2) (grown_setCell w2 g 65 (.int .i64 (((bs'.length : Nat) : Int) + (q : Int))))) e3
            refine round_end hkm hys hbs' hX hq1 hyl hkc hcc hat ho hgr hg4 ?_
            exact wr_seal hl he (Chain.kept hg4 (NoBlock.of Hb.out (by decide)) cs _ Hc.out) (by omega) e1 e2 (by omega)
      · have hM : (((L : Int) + (q : Int)) % 64 == 0) = false := by rw [beq_eq_false_iff_ne]; omega
        go_wp2
        go_roundg (gk - q)
        case measure => omega
        case rel =>
          obtain ⟨hys, hbs'⟩ := HY.out
          obtain ⟨hLe, hrL, hq, hX, hXV, hXl, he⟩ := HB.out
          obtain ⟨hat, ho, hgr, hyl, hl⟩ := Hat.out
          subst hLe; subst hrL
          have hg4 := grown_trans (grown_trans (grown_drew wr (some g)) hg2) (grown_setCell w2 g 65 (.int .i64 (((bs'.length : Nat) : Int) + (q : Int))))
          refine round_end hkm hys hbs' hX hq1 hyl hkc hcc hat ho hgr hg4 ?_
          have e1 := row_setCell H2.out 65 (.int .i64 (((bs'.length : Nat) : Int) + (q : Int)))
          rw [← Int.natCast_add, wrow_set_last _ _ _ _ (by rw [length_splice _ _ _ (by omega)]; exact hl)] at e1
          rw [← Int.natCast_add] at hg4 ⊢
          exact wr_more hl he (Chain.kept hg4 (NoBlock.of Hb.out (by decide)) cs _ Hc.out) (by omega) e1 (by omega)
    · have h0 : gk = 0 := by omega
      subst h0
      go_wp2
      go_end0
      have hm : m = n := by omega
      refine ⟨rfl, ?_, hgr⟩
      rw [hm, ← hn, List.take_length] at hwr
      exact hwr
end Go.Proofs.YtoflohjlmagjpaaDoor
