/- Texts joined: JpAc. -/
import Derived.Test.YtinkkocleognbaaGreatDoorProg
import Derived.Test.YtinkkocleognbaaGreatDoorJuAr
import Derived.Deep.LoopGhost
import Derived.Deep.RegionHeld3
import Derived.Deep.MidRow
import Derived.Deep.DrawnRows
import Derived.Deep.OwnRows
import Derived.Laws.AppendOwnNone
/- Texts joined: OcBehind, OcWriter, OcOut, OcReader, OcRead2, OcRead3, OcKit. -/
/- The contract of a Writer's inner function that puts a row of bytes behind what is there. -/
namespace Go.Proofs.YtinkkocleognbaaGreatDoor.Oc
open Go.RowKit
attribute [local go_sem ↓] Go.wp_at_zero Go.wp_at_succ
theorem Tryz.size5 : (Tryz.prog.info? 5).map (·.size) = some 1 := by kernel_rfl
theorem Tryz.size141 : (Tryz.prog.info? 141).map (·.size) = some 64 := by kernel_rfl
theorem sliceAt_open (g r : Nat) (h : r < 64) (w : World) : (Instr.sliceAt 141 (.pointer (some ⟨g, 1, none⟩)) (some (.int .i64 (r : Int))) none none).run Tryz.prog w = .ok (.slice (some ⟨g, 1 + r, none⟩) (64 - r) (64 - r)) w := by
  have hc : r ≤ 64 := by omega
  have hne : ¬ (64 = r) := by omega
  simp [Instr.sliceAt, Instr.sureAddr, run_underlying Tryz.underlying141, Instr.sliceBounds, Instr.sliceBound, asIntOf, hc, hne, Addr.add_mid]
theorem slice_from (ao : Option Addr) (len cap n : Nat) (h : n ≤ len) (w : World) : (Instr.slice 39 (.slice ao len cap) (some (.int .i64 (n : Int))) none none).run Tryz.prog w = .ok (.slice (cutA ao n cap) (len - n) (cap - n)) w := by
  simp [Instr.slice, run_underlying Tryz.underlying39, Instr.sliceBounds, Instr.sliceBound, asIntOf, h, cutA]

theorem zero75 : Tryz.zeroCells186.size = 65 := by kernel_rfl
theorem wp_load51 {x : Operand} {dst : Option Tmp} {ty : TypeId} {pos : String} {A : Array Edge} {gd : Option (Nat × Bool)} {a : Act} {w : World} {K : Act → World → Prop} {Q : Exit → Act → World → Prop} (hx : isPtr (a.eval x) = true) (hr : rangeOk w (blkOf (a.eval x)) (offOf (a.eval x)) 64) :
    Oper.wp Tryz.prog { dst := dst, op := .load 141 x, type := ty, pos := pos, after := A, guard := gd } a w K Q = K (a.put dst (.agg (rangeOf w (blkOf (a.eval x)) (offOf (a.eval x)) 64).toArray)) w :=
  wp_load_range 141 x rfl _ 64 Tryz.underlying141 rfl Tryz.size141 hx hr
attribute [local go_sem ↓] wp_load51
attribute [local go_sem] blkOf_ptr offOf_ptr isPtr_ptr

set_option maxHeartbeats 1000000 in
set_option maxRecDepth 100000 in
theorem behind_any (g n : Nat) (bs xs : List Int) (ao : Option Addr) (cap : Nat) (w : World) (hW : WrAt w g bs) (hn : xs.length = n) (hs : At w ao xs) (hoff : Off ao g) (hnc : n ≤ cap) (hcm : cap ≤ maxLen) (hL : bs.length + n ≤ 4611686018427387904) :
    Calls Tryz.prog 127 #[.pointer (some ⟨g, 0, none⟩), .slice ao n cap] w fun e w' => e = .returned (.tuple #[]) ∧ WrAt w' g (bs ++ xs) ∧ w.grownBy w' (some g) := by
  unfold maxLen at hcm
  go_enter Tryz.func127, Tryz.ntmps127
  go_wp2
  go_loopg [1] n (fun k row wr => ∃ m ao' cap', k + m = n ∧ row = .slice ao' k cap' ∧ k ≤ cap' ∧ cap' ≤ cap ∧ Off ao' g ∧ At wr ao' (xs.drop m) ∧ WrAt wr g (bs ++ xs.take m) ∧ w.grownBy wr (some g))
  case atStart => exact ⟨0, ao, cap, by omega, rfl, hnc, Nat.le_refl _, hoff, by simpa using hs, by simpa using hW, grown_refl _ _⟩
  case round =>
    obtain ⟨m, ao', cap', hkm, rfl, hkc, hcc, ho, hat, hwr, hgr⟩ := hrel
    clear hW hs hoff
    by_cases hk : 0 < gk
    · obtain ⟨ys, hys⟩ : ∃ ys, ys = xs.drop m := ⟨_, rfl⟩
      obtain ⟨bs', hbs'⟩ : ∃ b, b = bs ++ xs.take m := ⟨_, rfl⟩
      have hyl : ys.length = gk := by rw [hys]; simp; omega
      have hbl : bs'.length + gk ≤ 4611686018427387904 := by rw [hbs']; simp; omega
      rw [← hys] at hat
      rw [← hbs'] at hwr
      have HY : Hid (ys = xs.drop m ∧ bs' = bs ++ xs.take m) := ⟨hys, hbs'⟩
      clear hys hbs'
      obtain ⟨v, cs, op, hb, hl, hc, he⟩ := hwr
      obtain ⟨u, rfl⟩ := hc.ptr
      obtain ⟨L, hLe⟩ : ∃ L, L = bs'.length := ⟨_, rfl⟩
      obtain ⟨r, hrL⟩ : ∃ r, r = L % 64 := ⟨_, rfl⟩
      have hr64 : r < 64 := by omega
      have hr1 : (L : Int) % 64 = (r : Int) := by rw [hrL]; simp
      have hr2 : (L : Int).tmod 64 = (r : Int) := by rw [hrL]; simp [Int.tmod_eq_emod_of_nonneg]
      have hLm : (L : Int) ≤ 4611686018427387904 := by omega
      obtain ⟨q, hq⟩ : ∃ q, q = Nat.min gk (64 - r) := ⟨_, rfl⟩
      have hq1 : q ≤ gk := by rw [hq]; exact Nat.min_le_left _ _
      have hq2 : q ≤ 64 - r := by rw [hq]; exact Nat.min_le_right _ _
      have hq0 : 0 < q := by rw [hq]; simp only [Nat.min_def]; split <;> omega
      obtain ⟨X, hX⟩ : ∃ X, X = ys.take q := ⟨_, rfl⟩
      have hXl : X.length = q := by rw [hX]; simp; omega
      have hXa : At wr ao' X := by rw [hX]; exact hat.take q
      obtain ⟨XV, hXV⟩ : ∃ XV, XV = X.map (Value.int .u8) := ⟨_, rfl⟩
      have hXVl : XV.length = q := by rw [hXV]; simp [hXl]
      have hXp : 0 < XV.length → ∃ ad, ao' = some ad ∧ ∀ j u, XV[j]? = some u → wr.drew.cell? (ad.add j) = some u := by
        intro hp
        have hx0 : 0 < X.length := by omega
        obtain ⟨a, ha, _⟩ := hXa 0 X[0] (by simp [hx0])
        refine ⟨a, ha, fun j u hu => ?_⟩
        rw [hXV, List.getElem?_map] at hu
        cases hj : X[j]? with
        | none => simp [hj] at hu
        | some x =>
          simp [hj] at hu
          obtain ⟨a', ha', hc'⟩ := hXa j x hj
          rw [ha] at ha'; cases ha'
          rw [← hu]; simpa using hc'
      have hX1 : ∀ u ∈ XV, u.oneCell' = true := by
        intro u hu; rw [hXV] at hu; simp at hu; obtain ⟨x, _, rfl⟩ := hu; rfl
      have hmin : XV.length = Nat.min gk (64 - r) := by rw [hXVl, hq]
      have hfit : 1 + r + XV.length ≤ (wrow (.pointer u) op L).length := by rw [wrow_length, hl, hXVl]; omega
      have hbD : wr.drew.heap[g]? = some (.cells (wrow (.pointer u) op L).toArray 143 (0, 0)) := by rw [hLe]; exact hb
      have c65 : wr.cell? ⟨g, 65, none⟩ = some (.int .i64 L) := by rw [cell_row hb, wrow_last _ _ _ hl, hLe]
      have hsl : ∀ w, (Instr.sliceAt 141 (.pointer (some ⟨g, 1, none⟩)) (some (.int .i64 (r : Int))) none none).run Tryz.prog w = .ok (.slice (some ⟨g, 1 + r, none⟩) (64 - r) (64 - r)) w := sliceAt_open g r hr64
      have hcut : ∀ w, (Instr.slice 39 (.slice ao' gk cap') (some (.int .i64 (q : Int))) none none).run Tryz.prog w = .ok (.slice (cutA ao' q cap') (gk - q) (cap' - q)) w := slice_from ao' gk cap' q hq1
      have HB : Hid (L = bs'.length ∧ r = L % 64 ∧ q = Nat.min gk (64 - r) ∧ X = ys.take q ∧ XV = X.map (Value.int .u8) ∧ X.length = q ∧ bs' = cs.reverse.flatten ++ op.take (bs'.length % 64)) := ⟨hLe, hrL, hq, hX, hXV, hXl, he⟩
      have HXl : Hid (XV.length = q) := hXVl
      have HK : Hid (∀ w2 : World, w2.heap[g]? = some (.cells (splice (wrow (.pointer u) op L) (1 + r) XV).toArray 143 (0, 0)) → w2.heap[g]? = some (.cells (wrow (.pointer u) (splice op r X) L).toArray 143 (0, 0)) ∧ w2.cell? ⟨g, 65, none⟩ = some (.int .i64 L) ∧ w2.frozen? ⟨g, 65, none⟩ = false) := by
        intro w2 h2
        rw [hXV, wrow_splice _ _ _ _ _ (by omega)] at h2
        exact ⟨h2, by rw [cell_row h2, wrow_last _ _ _ (by rw [length_splice _ _ _ (by omega)]; exact hl)], free_row h2 _⟩
      have Hmin : Hid (XV.length = Nat.min gk (64 - r)) := hmin
      have Hfit : Hid (1 + r + XV.length ≤ (wrow (.pointer u) op L).length) := hfit
      have HbD : Hid (wr.drew.heap[g]? = some (.cells (wrow (.pointer u) op L).toArray 143 (0, 0))) := hbD
      have HXp : Hid (0 < XV.length → ∃ ad, ao' = some ad ∧ ∀ j u, XV[j]? = some u → wr.drew.cell? (ad.add j) = some u) := hXp
      have HX1 : Hid (∀ u ∈ XV, u.oneCell' = true) := hX1
      have Hc : Hid (Chain wr (.pointer u) cs) := hc
      have Hat : Hid (At wr ao' ys ∧ Off ao' g ∧ w.grownBy wr (some g) ∧ ys.length = gk ∧ op.length = 64) := ⟨hat, ho, hgr, hyl, hl⟩
      have Hb : Hid (wr.heap[g]? = some (.cells (wrow (.pointer u) op bs'.length).toArray 143 (0, 0))) := hb
      have hk' : (0 : Int) < (gk : Int) := by omega
      clear hLe hrL hq hX hXV hXl he hXVl hmin hfit hbD hXp hX1 hc hat ho hgr hyl hXa hl hb hn
      go_wp2
      go_region_held3 (fun w' => w'.cell? ⟨g, 65, none⟩ = some (.int .i64 L)) (go_keep) ((refine step_copy_grown rfl (.tmp 18) (.tmp 19) 39 39 rfl 5 Tryz.underlying39 Tryz.size5 _ _ _ _ _ _ (by rfl) (by rfl) g (1 + r) (wrow (.pointer u) op L) 143 HbD.out XV Hmin.out (fun hp => ⟨rfl, HXp.out hp⟩) Hfit.out HX1.out ?_; rw [HXl.out]; intro w2 H2 hg2; obtain ⟨H2', c65', f65⟩ := HK.out w2 H2.out; clear H2; have H2 := hide H2'; clear H2'))
      by_cases hS : r + q = 64
      · have hM : ((L : Int) + (q : Int)) % 64 = 0 := by omega
        obtain ⟨OV, hOV⟩ : ∃ OV, OV = (splice op r X).map (Value.int .u8) := ⟨_, rfl⟩
        have hOVl : OV.length = 64 := by obtain ⟨_, _, _, _, _, hx, _⟩ := HB.out; obtain ⟨_, _, _, _, ho⟩ := Hat.out; rw [hOV, List.length_map, length_splice _ _ _ (by omega)]; exact ho
        have hOV1 : ∀ u ∈ OV, u.oneCell' = true := by
          intro u hu; rw [hOV] at hu; simp at hu; obtain ⟨x, _, rfl⟩ := hu; rfl
        have h3 : (w2.setCell ⟨g, 65, none⟩ (.int .i64 ((L : Int) + (q : Int)))).heap[g]? = some (.cells (wrow (.pointer u) (splice op r X) (L + q)).toArray 143 (0, 0)) := by
          rw [row_setCell H2.out, ← Int.natCast_add, wrow_set_last]
          rw [hOV] at hOVl; simpa using hOVl
        have d0 : (w2.setCell ⟨g, 65, none⟩ (.int .i64 ((L : Int) + (q : Int)))).cell? ⟨g, 0, none⟩ = some (.pointer u) := by rw [cell_row h3, wrow_zero]
        have f0 : (w2.setCell ⟨g, 65, none⟩ (.int .i64 ((L : Int) + (q : Int)))).frozen? ⟨g, 0, none⟩ = false := free_row h3 _
        have rng : (w2.setCell ⟨g, 65, none⟩ (.int .i64 ((L : Int) + (q : Int)))).rangeAt g 1 OV := by
          intro j y hy
          rw [cell_row h3]
          rw [hOV, List.getElem?_map] at hy
          cases hj : (splice op r X)[j]? with
          | none => simp [hj] at hy
          | some x =>
            simp [hj] at hy
            obtain ⟨hlt, hx⟩ := List.getElem?_eq_some_iff.1 hj
            rw [wrow_open _ _ _ _ hlt, ← hy, hx]
        have k0 : ∀ o, ((w2.setCell ⟨g, 65, none⟩ (.int .i64 ((L : Int) + (q : Int)))).alloc o).cell? ⟨g, 0, none⟩ = some (.pointer u) := fun o => by
          rw [World.cell?_alloc_lt _ _ _ (row_lt h3)]; exact d0
        have kf : ∀ o, ((w2.setCell ⟨g, 65, none⟩ (.int .i64 ((L : Int) + (q : Int)))).alloc o).frozen? ⟨g, 0, none⟩ = false := fun o => by
          rw [World.frozen?_alloc_old _ _ _ (Nat.ne_of_lt (row_lt h3))]; exact f0
        have HOV : Hid (OV = (splice op r X).map (Value.int .u8)) := hOV
        have H3 := hide h3
        clear hOV h3
        go_wp2
        have rok : rangeOk (w2.setCell ⟨g, 65, none⟩ (.int .i64 ((L : Int) + (q : Int)))).drew g 1 64 := rangeOk_of (w := (w2.setCell ⟨g, 65, none⟩ (.int .i64 ((L : Int) + (q : Int)))).drew) rng hOVl
        have rof : rangeOf (w2.setCell ⟨g, 65, none⟩ (.int .i64 ((L : Int) + (q : Int)))).drew g 1 64 = OV := rangeOf_eq (w := (w2.setCell ⟨g, 65, none⟩ (.int .i64 ((L : Int) + (q : Int)))).drew) rng hOVl
        clear rng
        go_region_law (fail)
        all_goals
          go_wp2
          go_roundg (gk - q)
          case measure => omega
          case rel =>
            obtain ⟨hys, hbs'⟩ := HY.out
            obtain ⟨hLe, hrL, hq, hX, hXV, hXl, he⟩ := HB.out
            obtain ⟨hat, ho, hgr, hyl, hl⟩ := Hat.out
            subst hLe; subst hrL
            have hF := fold_block Tryz.zeroCells186 (.pointer u) OV zero75 hOVl
            obtain ⟨e1, e2, e3⟩ := seal_world H3.out (s := w2.heap.size) (by simp [World.setCell]) (hF.trans (by rw [HOV.out]))
            have hg4 := grown_trans (grown_trans (grown_trans (grown_drew wr (some g)) hg2) (grown_setCell w2 g 65 (.int .i64 (((bs'.length : Nat) : Int) + (q : Int))))) e3
            refine round_end hkm hys hbs' hX hq1 hyl hkc hcc hat ho hgr hg4 ?_
            exact wr_seal hl he (Chain.kept hg4 (NoBlock.of Hb.out (by decide)) cs _ Hc.out) (by omega) e1 e2 (by omega)
      · have hM : (((L : Int) + (q : Int)) % 64 == 0) = false := by rw [beq_eq_false_iff_ne]; omega
        go_wp2
        go_roundg (gk - q)
        case measure => omega
        case rel =>
          obtain ⟨hys, hbs'⟩ := HY.out
          obtain ⟨hLe, hrL, hq, hX, hXV, hXl, he⟩ := HB.out
          obtain ⟨hat, ho, hgr, hyl, hl⟩ := Hat.out
          subst hLe; subst hrL
          have hg4 := grown_trans (grown_trans (grown_drew wr (some g)) hg2) (grown_setCell w2 g 65 (.int .i64 (((bs'.length : Nat) : Int) + (q : Int))))
          refine round_end hkm hys hbs' hX hq1 hyl hkc hcc hat ho hgr hg4 ?_
          have e1 := row_setCell H2.out 65 (.int .i64 (((bs'.length : Nat) : Int) + (q : Int)))
          rw [← Int.natCast_add, wrow_set_last _ _ _ _ (by rw [length_splice _ _ _ (by omega)]; exact hl)] at e1
          rw [← Int.natCast_add] at hg4 ⊢
          exact wr_more hl he (Chain.kept hg4 (NoBlock.of Hb.out (by decide)) cs _ Hc.out) (by omega) e1 (by omega)
    · have h0 : gk = 0 := by omega
      subst h0
      go_wp2
      go_end0
      have hm : m = n := by omega
      refine ⟨rfl, ?_, hgr⟩
      rw [hm, ← hn, List.take_length] at hwr
      exact hwr
end Go.Proofs.YtinkkocleognbaaGreatDoor.Oc
/- The contracts of a Writer's calls that put, and of Len. -/
namespace Go.Proofs.YtinkkocleognbaaGreatDoor.Oc
open Go.RowKit

/-- The row behind k rounds. -/
def rowK (N : Int) (k : Nat) : List Value := (leB N k ++ List.replicate (8 - k) 0).map (Value.int .u8)
theorem rowK_set (N : Int) (k : Nat) (h : k < 8) : (rowK N k).set k (.int .u8 (N / 2 ^ (8 * k) % 256)) = rowK N (k + 1) := by
  have e : 8 - k = (8 - (k + 1)) + 1 := by omega
  have hl := leB_length N k
  rw [rowK, rowK, e, List.replicate_succ, List.map_append, List.set_append]
  simp only [List.length_map, hl, Nat.lt_irrefl, if_false, Nat.sub_self, List.map_cons, List.set_cons_zero]
  simp [leB, List.range_succ]
theorem rowK_get (N : Int) (k : Nat) (h : k < 8) : (rowK N k)[k]? = some (.int .u8 0) := by
  have hl := leB_length N k
  have e : 8 - k = (8 - (k + 1)) + 1 := by omega
  rw [rowK, e, List.replicate_succ, List.map_append, List.getElem?_append_right (by simp [hl])]
  simp [hl]
theorem rowK_at {w : World} {A k : Nat} {N : Int} (h : w.heap[A]? = some (.cells (rowK N k).toArray 213 (0, 0))) : At w (some ⟨A, 0, none⟩) (leB N k) := by
  intro j u hu
  refine ⟨_, rfl, ?_⟩
  rw [Addr.add_lit, cell_row h, rowK, List.getElem?_map, List.getElem?_append_left (by have := (List.getElem?_eq_some_iff.1 hu).1; omega)]
  simp [hu]

theorem sliceAt_row (g j : Nat) (h : j ≤ 8) (w : World) : (Instr.sliceAt 213 (.pointer (some ⟨g, 0, none⟩)) none (some (.int .i64 (j : Int))) none).run Tryz.prog w = .ok (.slice (some ⟨g, 0, none⟩) j 8) w := by
  simp [Instr.sliceAt, Instr.sureAddr, run_underlying Tryz.underlying213, Instr.sliceBounds, Instr.sliceBound, asIntOf, h, Addr.add_mid]
set_option maxHeartbeats 1000000 in
theorem number_any (g : Nat) (bs : List Int) (N S : Int) (size : Nat) (w : World) (hS : S = (size : Int)) (hW : WrAt w g bs) (hs : size ≤ 8) (_h0 : 0 ≤ N) (_h1 : N < 18446744073709551616) (hL : bs.length ≤ 4611686018427387000) :
    Calls Tryz.prog 128 #[.pointer (some ⟨g, 0, none⟩), .int .u64 N, .int .i64 S] w fun e w' => e = .returned (.tuple #[]) ∧ WrAt w' g (bs ++ leB N size) ∧ w.grownBy w' (some g) := by
  subst hS
  have HW := hide hW
  have hgl := hW.lt
  have HL := hide hL
  clear hW hL
  go_enter Tryz.func128, Tryz.ntmps128
  go_wp2
  go_loopg [9] size (fun k i wr => ∃ j : Nat, k + j = size ∧ i = .int .i64 j ∧ wr.heap[w.heap.size]? = some (.cells (rowK N j).toArray 213 (0, 0)) ∧ w.grownBy wr none)
  case atStart => exact ⟨0, rfl, rfl, heap_alloc_new w _, World.grownBy_alloc w _ _⟩
  case round =>
    obtain ⟨j, hkj, rfl, hb, hgr⟩ := hrel
    have Hb := hide hb
    by_cases hk : 0 < gk
    · have hj : j < size := by omega
      have hc : wr.cell? ⟨w.heap.size, j, none⟩ = some (.int .u8 0) := by rw [cell_row hb, rowK_get N j (by omega)]
      have hf : wr.frozen? ⟨w.heap.size, j, none⟩ = false := free_row hb _
      clear hb
      go_wp2
      go_roundg (gk - 1)
      case measure => omega
      case rel =>
        refine ⟨j + 1, by omega, by go_num, ?_, grown_then hgr (grown_setCell wr w.heap.size j _) (fun k e => by cases e; exact Or.inl (Nat.le_refl _))⟩
        rw [row_setCell Hb.out, rowK_set N j (by omega)]
    · have hjs : j = size := by omega
      subst hjs
      clear hb
      have hsl : ∀ w', (Instr.sliceAt 213 (.pointer (some ⟨w.heap.size, 0, none⟩)) none (some (.int .i64 (j : Int))) none).run Tryz.prog w' = .ok (.slice (some ⟨w.heap.size, 0, none⟩) j 8) w' := sliceAt_row w.heap.size j hs
      go_wp2_with fail
      refine (behind_any g j bs (leB N j) _ 8 _ (HW.out.kept hgr (by simp) (NoBlock.none _)) (leB_length N j) (rowK_at Hb.out) ?_ (by omega) (by unfold maxLen; omega) (by have := HL.out; omega)).mono ?_
      · intro a ha; cases ha; exact Nat.ne_of_gt hgl
      · rintro e w' ⟨rfl, hwr, hg⟩
        go_wp2
        go_end0
        exact ⟨rfl, hwr, grown_trans (grown_none hgr _) hg⟩
set_option maxHeartbeats 400000 in
theorem two_any (g : Nat) (bs : List Int) (N : Int) (w : World) (hW : WrAt w g bs) (h0 : 0 ≤ N) (h1 : N < 65536) (hL : bs.length ≤ 4611686018427387000) :
    Calls Tryz.prog 95 #[.pointer (some ⟨g, 0, none⟩), .int .u16 N] w fun e w' => e = .returned (.tuple #[]) ∧ WrAt w' g (bs ++ leB N 2) ∧ w.grownBy w' (some g) := by
  go_enter Tryz.func95, Tryz.ntmps95
  go_wp2_with fail
  refine (number_any g bs N _ 2 _ rfl hW (by omega) h0 (by omega) hL).mono ?_
  rintro e w' ⟨rfl, hwr, hg⟩
  go_wp2
  go_end0
  exact ⟨rfl, hwr, hg⟩
set_option maxHeartbeats 400000 in
theorem four_any (g : Nat) (bs : List Int) (N : Int) (w : World) (hW : WrAt w g bs) (h0 : 0 ≤ N) (h1 : N < 4294967296) (hL : bs.length ≤ 4611686018427387000) :
    Calls Tryz.prog 94 #[.pointer (some ⟨g, 0, none⟩), .int .u32 N] w fun e w' => e = .returned (.tuple #[]) ∧ WrAt w' g (bs ++ leB N 4) ∧ w.grownBy w' (some g) := by
  go_enter Tryz.func94, Tryz.ntmps94
  go_wp2_with fail
  refine (number_any g bs N _ 4 _ rfl hW (by omega) h0 (by omega) hL).mono ?_
  rintro e w' ⟨rfl, hwr, hg⟩
  go_wp2
  go_end0
  exact ⟨rfl, hwr, hg⟩
set_option maxHeartbeats 400000 in
theorem eight_any (g : Nat) (bs : List Int) (N : Int) (w : World) (hW : WrAt w g bs) (h0 : 0 ≤ N) (h1 : N < 18446744073709551616) (hL : bs.length ≤ 4611686018427387000) :
    Calls Tryz.prog 96 #[.pointer (some ⟨g, 0, none⟩), .int .u64 N] w fun e w' => e = .returned (.tuple #[]) ∧ WrAt w' g (bs ++ leB N 8) ∧ w.grownBy w' (some g) := by
  go_enter Tryz.func96, Tryz.ntmps96
  go_wp2_with fail
  refine (number_any g bs N _ 8 _ rfl hW (by omega) h0 (by omega) hL).mono ?_
  rintro e w' ⟨rfl, hwr, hg⟩
  go_wp2
  go_end0
  exact ⟨rfl, hwr, hg⟩
end Go.Proofs.YtinkkocleognbaaGreatDoor.Oc
/- The contract of a Writer's Out: a new row with just the bytes that were put. -/
namespace Go.Proofs.YtinkkocleognbaaGreatDoor.Oc
open Go.RowKit
attribute [local go_sem ↓] Go.wp_at_zero Go.wp_at_succ

theorem Tryz.info5 : (Tryz.prog.info? 5).map (fun i => (i.zero, i.size, i.bytes)) = some (some (.int .u8 0), 1, 1) := by kernel_rfl
/-- n cells of zeros. -/
def zrow (n : Nat) : List Value := List.replicate n (.int .u8 0)
theorem made_zrow (n : Nat) : madeCells #[.int .u8 0] n = (zrow n).toArray := by
  apply Array.ext'
  rw [toList_madeCells_one]
  rfl
end Go.Proofs.YtinkkocleognbaaGreatDoor.Oc
/- The contracts of a Reader's calls, of Of and of bytes.Clone. -/
namespace Go.Proofs.YtinkkocleognbaaGreatDoor.Oc
open Go.RowKit

/-- append(s, x...), s the call's own, x bytes that lie somewhere (or nil). -/
theorem wpList_append_at {w : World} {ops : Array Oper} {rest : List Oper} {o : Oper} {a : Act} {Q : Exit → Act → World → Prop} (hgd : o.guard = none) (s x : Operand)
    (ho : o.op = .call { callee := .builtin .append, args := #[s, x], argTypes := #[39, 39] }) (base : Nat) (v : Value) (n : Nat) (xs : List Value) (hs : a.eval s = v) (hown : w.ownsRow base 5 1 v n xs)
    (ao : Option Addr) (m c : Nat) (ys : List Int) (hx : a.eval x = .slice ao m c) (hm : ys.length = m) (hat : At w ao ys) (hnil : ao = none → m = 0 ∧ c = 0)
    (hbytes : n + m ≤ 140737488355328) (hbase : base ≤ w.heap.size)
    (h : ∀ v' w', w'.ownsRow base 5 1 v' (n + m) (xs ++ ys.map (Value.int .u8)) → w.grownBy w' v.ownBlock → wpList Tryz.prog ops Q rest (a.put o.dst v') w') : wpList Tryz.prog ops Q (o :: rest) a w := by
  obtain ⟨i0, hi, hz0, hz1, hz2⟩ := info_parts Tryz.info5
  cases ao with
  | none =>
    obtain ⟨rfl, rfl⟩ := hnil rfl
    refine wpList_append_own_none hgd s x 39 ho base 5 i0 1 Tryz.underlying39 hi v n xs hs hown hx (h v w ?_ (grown_refl w _))
    have : ys = [] := List.eq_nil_of_length_eq_zero hm
    subst this
    simpa using hown
  | some ad =>
    refine wpList_append_own _ hgd s x 39 ho base 5 i0 (.int .u8 0) 1 1 Tryz.underlying39 hi hz0 hz1 hz2 rfl (by decide) v n xs hs hown ad m c (ys.map (Value.int .u8)) hx (by simp [hm]) ?_ ?_ (by unfold maxLen; omega) (by omega) hbase (fun v' w' h1 h2 _ => h v' w' h1 h2)
    · intro j u hu
      rw [List.getElem?_map] at hu
      cases hj : ys[j]? with
      | none => simp [hj] at hu
      | some y =>
        simp [hj] at hu
        obtain ⟨a', ha', hc'⟩ := hat j y hj
        cases ha'
        rw [← hu]; exact hc'
    · intro u hu; rw [List.mem_map] at hu; obtain ⟨y, _, rfl⟩ := hu; rfl

/-- An owned row of bytes, as bytes that lie somewhere. -/
theorem own_at {w : World} {base n : Nat} {v : Value} {xs : List Int} (h : w.ownsRow base 5 1 v n (xs.map (Value.int .u8))) :
    ∃ ao cap, v = .slice ao n cap ∧ xs.length = n ∧ n ≤ cap ∧ cap ≤ maxLen ∧ At w ao xs ∧ (ao = none → n = 0 ∧ cap = 0) ∧ (∀ a, ao = some a → base ≤ a.block ∧ a.block < w.heap.size ∧ ∃ c, w.heap[a.block]? = some (.cells c 5 (0, 0))) := by
  obtain ⟨hl, h⟩ := h
  simp at hl
  rcases h with ⟨rfl, rfl⟩ | ⟨g, cap, cur, rfl, hb, hg, hn, hm, hs, ht⟩
  · have : xs = [] := List.eq_nil_of_length_eq_zero hl
    subst this
    exact ⟨none, 0, rfl, rfl, Nat.le_refl _, Nat.zero_le _, At.nil _ _, fun _ => ⟨rfl, rfl⟩, fun a e => by cases e⟩
  · refine ⟨some ⟨g, 0, none⟩, cap, rfl, hl, hn, hm, ?_, (fun e => by cases e), fun a e => by cases e; exact ⟨hb, row_lt hg, cur, hg⟩⟩
    intro j u hu
    refine ⟨_, rfl, ?_⟩
    rw [Addr.add_lit, Nat.zero_add, cell_of_row w g j cur 5 (0, 0) hg]
    have h1 : (cur.toList.take (n * 1))[j]? = some (Value.int .u8 u) := by rw [ht, List.getElem?_map, hu]; rfl
    rw [List.getElem?_take] at h1
    split at h1
    · simpa using h1
    · cases h1

set_option maxHeartbeats 400000 in
theorem clone_any (ao : Option Addr) (n cap : Nat) (xs : List Int) (w : World) (hn : xs.length = n) (hat : At w ao xs) (hnil : ao = none → n = 0 ∧ cap = 0) (hb : n ≤ 140737488355328) :
    Calls Tryz.prog 152 #[.slice ao n cap] w fun e w' => ∃ v, e = .returned v ∧ w'.ownsRow w.heap.size 5 1 v n (xs.map (Value.int .u8)) ∧ w.grownBy w' none := by
  have Hn := hide hn
  clear hn
  have hq := fun w' => Lib.run_eql_slice_nil (P := Tryz.prog) w' 39 5 ao n cap 0 0 Tryz.underlying39
  cases ao with
  | none =>
    obtain ⟨rfl, rfl⟩ := hnil rfl
    have : xs = [] := List.eq_nil_of_length_eq_zero Hn.out
    subst this
    clear Hn
    go_enter Tryz.func152, Tryz.ntmps152
    go_wp2
    go_ret
    exact ⟨_, rfl, World.ownsRow_nil _ _ _ _, grown_refl _ _⟩
  | some a =>
    go_enter Tryz.func152, Tryz.ntmps152
    go_wp2_with (at_builtin; refine wpList_append_at rfl (.tmp 5) (.tmp 6) rfl w.heap.size (.slice (some ⟨w.heap.size, 0, none⟩) 0 0) 0 [] rfl ?_ (some a) n cap xs rfl Hn.out ?_ (fun e => by cases e) (by omega) (by simp) ?_)
    · exact World.ownsRow_made w #[] 0 (Nat.le_refl _) (Nat.zero_le _) rfl
    · exact hat.kept (World.grownBy_alloc w _ none) (by simp)
    · intro v' w' hown hg
      obtain ⟨ao', cap', rfl, hr⟩ := own_at hown
      clear hr
      go_wp2
      go_ret
      exact ⟨_, rfl, hown, grown_then (World.grownBy_alloc w _ none) hg (fun k e => by cases e; exact Or.inl (Nat.le_refl _))⟩

/-- The cells of a Reader. -/
def rrow (ao : Option Addr) (n cap : Nat) (e : Int) : List Value := [.slice ao n cap, .int .i64 e, .bool true]
/-- The Reader at the head of block b has the bytes xs left, and the error e. -/
def RdAt (w : World) (b : Nat) (xs : List Int) (e : Int) : Prop :=
  ∃ ao cap, w.heap[b]? = some (.cells (rrow ao xs.length cap e).toArray 217 (0, 0)) ∧ xs.length ≤ cap ∧ cap ≤ maxLen ∧ At w ao xs ∧ Off ao b ∧ (ao = none → cap = 0) ∧ (e ≠ 0 → xs = []) ∧ (∀ a, ao = some a → ∃ c, w.heap[a.block]? = some (.cells c 5 (0, 0)))

theorem RdAt.lt {w : World} {b : Nat} {xs : List Int} {e : Int} (h : RdAt w b xs e) : b < w.heap.size := by obtain ⟨ao, cap, hb, _⟩ := h; exact row_lt hb
/-- The row that may be written holds no bytes. -/
def NoBytes (w : World) (row : Option Nat) : Prop := ∀ k c fr, row = some k → w.heap[k]? ≠ some (.cells c 5 fr)
theorem NoBytes.none (w : World) : NoBytes w none := fun _ _ _ e => by cases e
theorem NoBytes.of {w : World} {g : Nat} {c : Array Value} {t : TypeId} {fr : Nat × Nat} (h : w.heap[g]? = some (.cells c t fr)) (ht : t ≠ 5) : NoBytes w (some g) := by
  intro k c' fr' e h'
  cases e
  rw [h] at h'
  simp at h'
  exact ht h'.2.1
theorem RdAt.kept {w w' : World} {b : Nat} {xs : List Int} {e : Int} {row : Option Nat} (h : RdAt w b xs e) (hg : w.grownBy w' row) (hne : row ≠ some b) (hr : NoBytes w row) : RdAt w' b xs e := by
  obtain ⟨ao, cap, hb, h1, h2, hat, ho, h3, h4, h5⟩ := h
  have hne' : ∀ a, ao = some a → some a.block ≠ row := fun a ha e => by
    obtain ⟨c, hc⟩ := h5 a ha
    exact hr a.block c (0, 0) e.symm hc
  refine ⟨ao, cap, (hg.block b (row_lt hb) (fun e => hne e.symm)).trans hb, h1, h2, hat.kept hg hne', ho, h3, h4, fun a ha => ?_⟩
  obtain ⟨c, hc⟩ := h5 a ha
  exact ⟨c, (hg.block _ (row_lt hc) (hne' a ha)).trans hc⟩

/-- What n bytes taken off leave: what is given, what is left, the error. -/
def takeF (xs : List Int) (e n : Int) : List Int × List Int × Int :=
  if e ≠ 0 then ([], xs, e) else if n < 0 then ([], [], 2) else if (xs.length : Int) < n then ([], [], 4) else (xs.take n.toNat, xs.drop n.toNat, 0)

theorem rrow_set (ao ao' : Option Addr) (n n' cap cap' : Nat) (e : Int) : (rrow ao n cap e).set 0 (.slice ao' n' cap') = rrow ao' n' cap' e := rfl

/-- A slice that was given. -/
def Given (w : World) (b : Nat) (v : Value) (xs : List Int) : Prop :=
  ∃ ao cap, v = .slice ao xs.length cap ∧ xs.length ≤ cap ∧ cap ≤ maxLen ∧ At w ao xs ∧ Off ao b ∧ (ao = none → cap = 0) ∧ (∀ a, ao = some a → ∃ c, w.heap[a.block]? = some (.cells c 5 (0, 0)))

theorem given_nil (w : World) (b : Nat) : Given w b (.slice none 0 0) [] := ⟨none, 0, rfl, Nat.le_refl _, Nat.zero_le _, At.nil _ _, (fun a e => by cases e), fun _ => rfl, (fun a e => by cases e)⟩
/-- A Reader that has met an error. -/
theorem rd_err {w : World} {b n cap : Nat} {ao : Option Addr} {e E : Int} (hb : w.heap[b]? = some (.cells (rrow ao n cap e).toArray 217 (0, 0))) :
    RdAt ((w.setCell ⟨b, 0, none⟩ (.slice none 0 0)).setCell ⟨b, 1, none⟩ (.int .i64 E)) b [] E ∧ w.grownBy ((w.setCell ⟨b, 0, none⟩ (.slice none 0 0)).setCell ⟨b, 1, none⟩ (.int .i64 E)) (some b) := by
  refine ⟨⟨none, 0, ?_, Nat.le_refl _, Nat.zero_le _, At.nil _ _, (fun a e => by cases e), fun _ => rfl, fun _ => rfl, (fun a e => by cases e)⟩, grown_trans (grown_setCell w b 0 _) (grown_setCell _ b 1 _)⟩
  exact row_setCell (row_setCell hb 0 _) 1 _

/-- A Reader off which n bytes were taken. -/
theorem rd_cut {w : World} {b n cap : Nat} {ao : Option Addr} {xs : List Int} (hb : w.heap[b]? = some (.cells (rrow ao xs.length cap 0).toArray 217 (0, 0))) (hn : n ≤ xs.length) (h1 : xs.length ≤ cap) (h2 : cap ≤ maxLen) (hat : At w ao xs) (ho : Off ao b) (h3 : ao = none → cap = 0)
    (h5 : ∀ a, ao = some a → ∃ c, w.heap[a.block]? = some (.cells c 5 (0, 0))) :
    Given (w.setCell ⟨b, 0, none⟩ (.slice (cutA ao n cap) (xs.length - n) (cap - n))) b (.slice ao n cap) (xs.take n) ∧
    RdAt (w.setCell ⟨b, 0, none⟩ (.slice (cutA ao n cap) (xs.length - n) (cap - n))) b (xs.drop n) 0 ∧ w.grownBy (w.setCell ⟨b, 0, none⟩ (.slice (cutA ao n cap) (xs.length - n) (cap - n))) (some b) := by
  have hg := grown_setCell w b 0 (.slice (cutA ao n cap) (xs.length - n) (cap - n))
  have hat' := hat.kept hg ho.ne
  have hl : (xs.take n).length = n := by simp; omega
  have hd : (xs.drop n).length = xs.length - n := by simp
  have h5' : ∀ a, ao = some a → ∃ c, (w.setCell ⟨b, 0, none⟩ (.slice (cutA ao n cap) (xs.length - n) (cap - n))).heap[a.block]? = some (.cells c 5 (0, 0)) := fun a ha => by
    obtain ⟨c, hc⟩ := h5 a ha
    exact ⟨c, (hg.block _ (row_lt hc) (ho.ne a ha)).trans hc⟩
  refine ⟨⟨ao, cap, by rw [hl], by omega, h2, hat'.take n, ho, h3, h5'⟩, ⟨cutA ao n cap, cap - n, ?_, by omega, by omega, hat'.cut n cap h1, ho.cut n cap, ?_, fun h => absurd rfl h, ?_⟩, hg⟩
  · rw [hd, row_setCell hb, rrow_set]
  · intro e
    unfold cutA at e
    split at e
    · omega
    · cases ao with
      | none => have := h3 rfl; omega
      | some a => simp at e
  · intro a ha
    unfold cutA at ha
    split at ha
    · exact h5' a ha
    · cases ao with
      | none => simp at ha
      | some x => simp at ha; rw [← ha, addr_add_block]; exact h5' x rfl

set_option maxHeartbeats 1000000 in
theorem cut_any (b : Nat) (xs : List Int) (e n : Int) (w : World) (hR : RdAt w b xs e) (hm1 : -9223372036854775808 ≤ n) (hm2 : n ≤ 9223372036854775807) :
    Calls Tryz.prog 183 #[.pointer (some ⟨b, 0, none⟩), .int .i64 n] w fun r w' => ∃ v, r = .returned v ∧ Given w' b v (takeF xs e n).1 ∧ RdAt w' b (takeF xs e n).2.1 (takeF xs e n).2.2 ∧ w.grownBy w' (some b) := by
  obtain ⟨ao, cap, hb, h1, h2, hat, ho, h3, h4, h5⟩ := hR
  unfold maxLen at h2
  have c0 : w.cell? ⟨b, 0, none⟩ = some (.slice ao xs.length cap) := by rw [cell_row hb]; rfl
  have c1 : w.cell? ⟨b, 1, none⟩ = some (.int .i64 e) := by rw [cell_row hb]; rfl
  have f0 : w.frozen? ⟨b, 0, none⟩ = false := free_row hb _
  have f1 : w.frozen? ⟨b, 1, none⟩ = false := free_row hb _
  have HB := hide (And.intro hb (And.intro hat (And.intro ho (And.intro h4 (And.intro h3 h5)))))
  clear hb hat ho h4 h3 h5
  by_cases he : e = 0
  · subst he
    by_cases hn : n < 0
    · have HT : Hid (takeF xs 0 n = ([], [], 2)) := by show _ = _; simp [takeF, hn]
      go_enter Tryz.func183, Tryz.ntmps183
      go_wp2
      go_ret
      obtain ⟨e1, e2⟩ := rd_err (E := 2) HB.out.1
      rw [HT.out]
      exact ⟨_, rfl, given_nil _ _, e1, e2⟩
    · by_cases hl : (xs.length : Int) < n
      · have HT : Hid (takeF xs 0 n = ([], [], 4)) := by show _ = _; simp [takeF, hn, hl]
        go_enter Tryz.func183, Tryz.ntmps183
        go_wp2
        go_ret
        obtain ⟨e1, e2⟩ := rd_err (E := 4) HB.out.1
        rw [HT.out]
        exact ⟨_, rfl, given_nil _ _, e1, e2⟩
      · obtain ⟨k, rfl⟩ := Int.eq_ofNat_of_zero_le (Int.not_lt.1 hn)
        have hk : k ≤ xs.length := by omega
        have HT : Hid (takeF xs 0 k = (xs.take k, xs.drop k, 0)) := by show _ = _; simp [takeF, hl]
        have hcut := slice_from ao xs.length cap k hk
        go_enter Tryz.func183, Tryz.ntmps183
        go_wp2
        go_ret
        obtain ⟨hb, hat, ho, h4, h3, h5⟩ := HB.out
        obtain ⟨e1, e2, e3⟩ := rd_cut (n := k) hb hk h1 (by unfold maxLen; exact h2) hat ho h3 h5
        rw [HT.out]
        exact ⟨_, rfl, e1, e2, e3⟩
  · have HT : Hid (takeF xs e n = ([], xs, e)) := by show _ = _; simp [takeF, he]
    have he' : (e == 0) = false := beq_eq_false_iff_ne.2 he
    go_enter Tryz.func183, Tryz.ntmps183
    go_wp2
    go_ret
    obtain ⟨hb, hat, ho, h4, h3, h5⟩ := HB.out
    rw [HT.out]
    exact ⟨_, rfl, given_nil _ _, ⟨ao, cap, hb, h1, h2, hat, ho, h3, h4, h5⟩, grown_refl _ _⟩
end Go.Proofs.YtinkkocleognbaaGreatDoor.Oc
/- The contracts of a Reader's other calls. -/
namespace Go.Proofs.YtinkkocleognbaaGreatDoor.Oc
open Go.RowKit

theorem RdAt.made {w : World} {b : Nat} {xs : List Int} {e : Int} (h : RdAt w b xs e) : w.cell? ⟨b, 2, none⟩ = some (.bool true) := by obtain ⟨ao, cap, hb, _⟩ := h; rw [cell_row hb]; rfl
set_option maxHeartbeats 400000 in
theorem isNone_at (b : Nat) (m : Bool) (w : World) (h : w.cell? ⟨b, 2, none⟩ = some (.bool m)) : Calls Tryz.prog 182 #[.pointer (some ⟨b, 0, none⟩)] w fun e w' => e = .returned (.bool (!m)) ∧ w' = w := by
  go_enter Tryz.func182, Tryz.ntmps182
  go_wp2
  go_ret
  exact ⟨rfl, rfl⟩

set_option maxHeartbeats 400000 in
theorem next_any (b : Nat) (xs : List Int) (e n : Int) (w : World) (hR : RdAt w b xs e) (hm1 : -9223372036854775808 ≤ n) (hm2 : n ≤ 9223372036854775807) :
    Calls Tryz.prog 172 #[.pointer (some ⟨b, 0, none⟩), .int .i64 n] w fun r w' => ∃ v, r = .returned v ∧ Given w' b v (takeF xs e n).1 ∧ RdAt w' b (takeF xs e n).2.1 (takeF xs e n).2.2 ∧ w.grownBy w' (some b) := by
  go_enter Tryz.func172, Tryz.ntmps172
  go_wp2_with fail
  refine (isNone_at b true w hR.made).mono ?_
  rintro e1 w' ⟨rfl, rfl⟩
  go_wp2_with fail
  refine (cut_any b xs e n _ hR hm1 hm2).mono ?_
  rintro e1 w' ⟨v, rfl, hG, hR', hg⟩
  obtain ⟨ao, cap, rfl, hrest⟩ := hG
  have H := hide hrest
  clear hrest
  go_wp2
  go_ret
  exact ⟨_, rfl, ⟨ao, cap, rfl, H.out⟩, hR', hg⟩

theorem takeF_given (xs : List Int) (e n : Int) : ((takeF xs e n).1.length : Int) ≤ max n 0 ∧ ∀ x ∈ (takeF xs e n).1, x ∈ xs := by
  unfold takeF
  split
  · simp; omega
  · split
    · simp; omega
    · split
      · simp; omega
      · refine ⟨by simp; omega, fun x hx => List.mem_of_mem_take hx⟩

set_option maxHeartbeats 1000000 in
theorem rnum_any (b : Nat) (xs : List Int) (e S : Int) (size : Nat) (w : World) (hR : RdAt w b xs e) (hB : Byt xs) (hS : S = (size : Int)) (hs : size ≤ 8) :
    Calls Tryz.prog 153 #[.pointer (some ⟨b, 0, none⟩), .int .i64 S] w fun r w' => r = .returned (.int .u64 (leV (takeF xs e S).1)) ∧ RdAt w' b (takeF xs e S).2.1 (takeF xs e S).2.2 ∧ w.grownBy w' (some b) := by
  have hS1 : 0 ≤ S := by omega
  have hS2 : S ≤ 8 := by omega
  obtain ⟨⟨G, R, E⟩, hT⟩ : ∃ p, takeF xs e S = p := ⟨_, rfl⟩
  have hnx := next_any b xs e S w hR (by omega) (by omega)
  have hGl' : G.length ≤ 8 ∧ Byt G := by
    have := takeF_given xs e S
    rw [hT] at this
    exact ⟨by have := this.1; simp only at this; omega, fun x hx => hB x (this.2 x hx)⟩
  obtain ⟨hGl, hGB⟩ := hGl'
  rw [hT] at hnx ⊢
  simp only at hnx ⊢
  have HN := hide hnx
  have HT := hide hT
  clear hS hT hnx
  go_enter Tryz.func153, Tryz.ntmps153
  go_wp2_with fail
  refine HN.out.mono ?_
  rintro e1 w1 ⟨v, rfl, hG, hR', hg⟩
  obtain ⟨ao, cap, rfl, hl, hcm, hat, ho, hn, h5⟩ := hG
  have H := hide (And.intro hR' (And.intro hg hat))
  clear hR' hg hat hn h5 ho HN HT
  go_wp2
  go_loopg [5, 12] G.length (fun k n i wr => ∃ j : Nat, k + j = G.length ∧ i = .int .i64 j ∧ n = .int .u64 (leV (G.take j)) ∧ wr = w1)
  case atStart => exact ⟨0, by simp, rfl, by simp [leV], rfl⟩
  case round =>
    obtain ⟨j, hkj, rfl, rfl, rfl⟩ := hrel
    by_cases hk : 0 < gk
    · have hj : j < G.length := by omega
      obtain ⟨a, rfl, hc⟩ := H.out.2.2 j G[j] (by simp [hj])
      have hx := hGB G[j] (by simp)
      go_wp2
      go_roundg (gk - 1)
      case measure => omega
      case rel =>
        have h8 := or_step (G.take j) G[j] (hGB.take j) hx (by simp; omega)
        have hlen : (G.take j).length = j := by simp; omega
        rw [hlen] at h8
        refine ⟨j + 1, by omega, by go_num, ?_, rfl⟩
        rw [h8, List.take_succ_eq_append_getElem hj]
    · have hj : j = G.length := by omega
      subst hj
      go_wp2
      go_ret
      rw [List.take_length]
      exact ⟨rfl, H.out.1, H.out.2.1⟩
end Go.Proofs.YtinkkocleognbaaGreatDoor.Oc
/- The contracts of a Reader's calls: numbers, Take, Left, Err, End; of Of. -/
namespace Go.Proofs.YtinkkocleognbaaGreatDoor.Oc
open Go.RowKit

theorem own_base {w : World} {base base' n : Nat} {v : Value} {xs : List Value} {e : TypeId} {size : Nat} (h : w.ownsRow base' e size v n xs) (hb : base ≤ base') : w.ownsRow base e size v n xs := by
  obtain ⟨h1, h2⟩ := h
  refine ⟨h1, ?_⟩
  rcases h2 with h2 | ⟨g, cap, cur, hv, hg, r⟩
  · exact Or.inl h2
  · exact Or.inr ⟨g, cap, cur, hv, Nat.le_trans hb hg, r⟩

theorem takeF_bytes {xs : List Int} (h : Byt xs) (e n : Int) : Byt (takeF xs e n).1 ∧ Byt (takeF xs e n).2.1 := by
  refine ⟨fun x hx => h x ((takeF_given xs e n).2 x hx), ?_⟩
  unfold takeF
  split
  · exact h
  · split
    · intro x hx; cases hx
    · split
      · intro x hx; cases hx
      · exact h.drop _

theorem takeF_value {xs : List Int} (h : Byt xs) (e : Int) (k : Nat) : 0 ≤ leV (takeF xs e k).1 ∧ leV (takeF xs e k).1 < 2 ^ (8 * k) := by
  have h1 := leV_bound _ (takeF_bytes h e k).1
  have h2 := (takeF_given xs e k).1
  refine ⟨h1.1, Int.lt_of_lt_of_le h1.2 ?_⟩
  have h3 : (takeF xs e k).1.length ≤ k := by omega
  have h4 : (2 : Nat) ^ (8 * (takeF xs e k).1.length) ≤ 2 ^ (8 * k) := Nat.pow_le_pow_right (by omega) (by omega)
  have h5 : ((2 ^ (8 * (takeF xs e k).1.length) : Nat) : Int) ≤ ((2 ^ (8 * k) : Nat) : Int) := Int.ofNat_le.2 h4
  simpa using h5

set_option maxHeartbeats 400000 in
theorem rtwo_any (b : Nat) (xs : List Int) (e : Int) (w : World) (hR : RdAt w b xs e) (hB : Byt xs) :
    Calls Tryz.prog 132 #[.pointer (some ⟨b, 0, none⟩)] w fun r w' => r = .returned (.int .u16 (leV (takeF xs e 2).1)) ∧ RdAt w' b (takeF xs e 2).2.1 (takeF xs e 2).2.2 ∧ w.grownBy w' (some b) := by
  have hv := takeF_value hB e 2
  have hr := rnum_any b xs e 2 2 w hR hB rfl (by omega)
  simp only [show (((2 : Nat) : Int)) = 2 from rfl] at hv
  have hv1 : leV (takeF xs e 2).1 < 65536 := hv.2
  have hv0 := hv.1
  clear hv
  generalize leV (takeF xs e 2).1 = V at *
  have HR := hide hr
  clear hr
  go_enter Tryz.func132, Tryz.ntmps132
  go_wp2_with fail
  refine HR.out.mono ?_
  rintro e1 w1 ⟨rfl, hR', hg⟩
  go_wp2
  go_ret
  exact ⟨rfl, hR', hg⟩
set_option maxHeartbeats 400000 in
theorem rfour_any (b : Nat) (xs : List Int) (e : Int) (w : World) (hR : RdAt w b xs e) (hB : Byt xs) :
    Calls Tryz.prog 131 #[.pointer (some ⟨b, 0, none⟩)] w fun r w' => r = .returned (.int .u32 (leV (takeF xs e 4).1)) ∧ RdAt w' b (takeF xs e 4).2.1 (takeF xs e 4).2.2 ∧ w.grownBy w' (some b) := by
  have hv := takeF_value hB e 4
  have hr := rnum_any b xs e 4 4 w hR hB rfl (by omega)
  simp only [show (((4 : Nat) : Int)) = 4 from rfl] at hv
  have hv1 : leV (takeF xs e 4).1 < 4294967296 := hv.2
  have hv0 := hv.1
  clear hv
  generalize leV (takeF xs e 4).1 = V at *
  have HR := hide hr
  clear hr
  go_enter Tryz.func131, Tryz.ntmps131
  go_wp2_with fail
  refine HR.out.mono ?_
  rintro e1 w1 ⟨rfl, hR', hg⟩
  go_wp2
  go_ret
  exact ⟨rfl, hR', hg⟩
set_option maxHeartbeats 400000 in
theorem reight_any (b : Nat) (xs : List Int) (e : Int) (w : World) (hR : RdAt w b xs e) (hB : Byt xs) :
    Calls Tryz.prog 133 #[.pointer (some ⟨b, 0, none⟩)] w fun r w' => r = .returned (.int .u64 (leV (takeF xs e 8).1)) ∧ RdAt w' b (takeF xs e 8).2.1 (takeF xs e 8).2.2 ∧ w.grownBy w' (some b) := by
  have hv := takeF_value hB e 8
  have hr := rnum_any b xs e 8 8 w hR hB rfl (by omega)
  simp only [show (((8 : Nat) : Int)) = 8 from rfl] at hv
  have hv1 : leV (takeF xs e 8).1 < 18446744073709551616 := hv.2
  have hv0 := hv.1
  clear hv
  generalize leV (takeF xs e 8).1 = V at *
  have HR := hide hr
  clear hr
  go_enter Tryz.func133, Tryz.ntmps133
  go_wp2_with fail
  refine HR.out.mono ?_
  rintro e1 w1 ⟨rfl, hR', hg⟩
  go_wp2
  go_ret
  exact ⟨rfl, hR', hg⟩
set_option maxHeartbeats 400000 in
theorem of_any (ao : Option Addr) (n cap : Nat) (xs : List Int) (w : World) (hn : xs.length = n) (hat : At w ao xs) (hnil : ao = none → n = 0 ∧ cap = 0) (hb : n ≤ 140737488355328) :
    Calls Tryz.prog 130 #[.slice ao n cap] w fun r w' => ∃ B, r = .returned (.pointer (some ⟨B, 0, none⟩)) ∧ w.heap.size ≤ B ∧ RdAt w' B xs 0 ∧ w.grownBy w' none := by
  have Hn := hide hn
  clear hn
  go_enter Tryz.func130, Tryz.ntmps130
  go_wp2_with fail
  refine (clone_any ao n cap xs _ Hn.out hat hnil hb).mono ?_
  rintro e1 w1 ⟨v, rfl, hown, hg⟩
  obtain ⟨ao', cap', rfl, hl, hnc, hcm, hat', hnil', h5⟩ := own_at hown
  have H := hide (And.intro hl (And.intro hnc (And.intro hcm (And.intro hat' (And.intro hnil' (And.intro h5 hg))))))
  clear hl hnc hcm hat' hnil' h5 hg hown
  go_wp2
  go_ret
  obtain ⟨hl, hnc, hcm, hat', hnil', h5, hg⟩ := H.out
  have hga := World.grownBy_alloc w1 (.cells (rrow ao' xs.length cap' 0).toArray 217) none
  refine ⟨w1.heap.size, rfl, hg.size, ⟨ao', cap', ?_, by omega, hcm, ?_, ?_, fun e => (hnil' e).2, fun h => absurd rfl h, ?_⟩, ?_⟩
  · rw [hl]; exact heap_alloc_new w1 _
  · rw [← hl]; exact hat'.kept hga (by simp)
  · intro a ha e; have := (h5 a ha).2.1; omega
  · intro a ha
    obtain ⟨_, hlt, c, hc⟩ := h5 a ha
    exact ⟨c, (Below.heap_alloc _ _ _ hlt).trans hc⟩
  · exact grown_trans hg (World.grownBy_alloc w1 _ _)
end Go.Proofs.YtinkkocleognbaaGreatDoor.Oc
/- The contracts of the statements' own helpers for bytes: SameBytes, CopyBytes. -/
namespace Go.Proofs.YtinkkocleognbaaGreatDoor.Oc
open Go.RowKit
attribute [local go_sem ↓] Go.wp_at_zero Go.wp_at_succ

set_option maxHeartbeats 1000000 in
theorem same_eq (ao bo : Option Addr) (n c d : Nat) (xs : List Int) (w : World) (hn : xs.length = n) (ha : At w ao xs) (hb : At w bo xs) (hm : n ≤ 4611686018427387904) :
    Calls Tryz.prog 88 #[.slice ao n c, .slice bo n d] w fun e w' => e = .returned (.bool true) ∧ w.grownBy w' none := by
  have HA := hide (And.intro hn (And.intro ha hb))
  clear hn ha hb
  go_enter Tryz.func88, Tryz.ntmps88
  go_wp2
  go_loopg [5] n (fun k i wr => ∃ j : Nat, k + j = n ∧ i = .int .i64 j ∧ w.grownBy wr none)
  case atStart => exact ⟨0, by omega, rfl, grown_refl _ _⟩
  case round =>
    obtain ⟨j, hkj, rfl, hg⟩ := hrel
    by_cases hk : 0 < gk
    · obtain ⟨hn, ha, hb⟩ := HA.out
      have hj : j < xs.length := by omega
      obtain ⟨a, rfl, hca⟩ := ha j xs[j] (by simp [hj])
      obtain ⟨b, rfl, hcb⟩ := hb j xs[j] (by simp [hj])
      have hca' := hg.cell hca (by simp)
      have hcb' := hg.cell hcb (by simp)
      have h1 : (0 : Int) ≤ (j : Int) := by omega
      have h2 : (j : Int) < (n : Int) := by omega
      generalize xs[j] = x at *
      clear hn ha hb hca hcb hj
      go_wp2
      go_region_held3 (fun w' => w'.cell? (a.add j) = some (.int .u8 x) ∧ w'.cell? (b.add j) = some (.int .u8 x)) (go_keep) (fail)
      go_wp2
      go_roundg (gk - 1)
      case measure => omega
      case rel => exact ⟨j + 1, by omega, by go_num, grown_trans hg (grown_drew _ _)⟩
    · have hj : j = n := by omega
      subst hj
      go_wp2
      go_ret
      exact ⟨rfl, hg⟩

/-- A Writer that has just been made. -/
theorem wr_new (w : World) (C : Array Value) (hC : C = (wrow (.pointer none) (List.replicate 64 0) 0).toArray) : WrAt (w.alloc (.cells C 143)) w.heap.size [] := by
  subst hC
  exact ⟨.pointer none, [], List.replicate 64 0, heap_alloc_new w _, by simp, rfl, by simp⟩

theorem zero53 : Tryz.zeroCells143 = (wrow (.pointer none) (List.replicate 64 0) 0).toArray := by kernel_rfl
theorem wr_zero (w : World) : WrAt (w.alloc (.cells Tryz.zeroCells143 143)) w.heap.size [] := wr_new w _ zero53

/-- A row of bytes that has just been laid. -/
theorem at_new (w : World) (xs : List Int) (C : Array Value) (hC : C = (xs.map (Value.int .u8)).toArray) : At (w.alloc (.cells C 5)) (some ⟨w.heap.size, 0, none⟩) xs := by
  subst hC
  intro j u hu
  refine ⟨_, rfl, ?_⟩
  rw [Addr.add_lit, Nat.zero_add, cell_row (heap_alloc_new w _), List.getElem?_map, hu]; rfl
end Go.Proofs.YtinkkocleognbaaGreatDoor.Oc
