/- Texts joined: TuL, TuF, Tu0, Tu1, TuC, Tu3. -/
import Derived.Test.YtonokaelbpfjnaaGreatDoorJhBa
import Derived.Test.YtonokaelbpfjnaaGreatDoorJhAd
import Derived.Test.YtonokaelbpfjnaaGreatDoorJhAm
/- Arguments opened: rows of ints, of fates. -/
namespace Go.Proofs.YtonokaelbpfjnaaGreatDoor
open Go.ChangeShapes Go.WideShapes Go.ChangeAt Go.RowKit Go.Deep Ap
theorem bytes3 : Tryz.prog.bytesOf 3 = 8 := by kernel_rfl
variable {H : Type} {enc : TypeId × Value → H}
set_option maxRecDepth 100000 in
/-- An argument that is a slice of int: its numbers. -/
theorem open_zArg {w : World} {base : Nat} {spare : Nat → Bool} {held : Bool} {r : Reach} {b0 : Nat} {v : Value} {d : DataW H} {ps : List MemPlace} (hval : Value.okWide Tryz.prog w r b0 62 v) (hd : DataW.Trod enc Tryz.prog w base spare held 62 v d ps) (hzz : ∀ n ∈ d.weights Tryz.prog 62, n ≤ reachBytes) :
    ∃ ao n cap, ∃ xs : List Int, v = .slice ao n cap ∧ xs.length = n ∧ (∀ j u, xs[j]? = some u → ∃ a, ao = some a ∧ w.cell? (a.add j) = some (.int .i64 u)) ∧ n ≤ 4611686018427387904 := by
  obtain ⟨ao, n, cap, rfl⟩ := okWide_slice Tryz.underlying62 hval
  obtain ⟨fuel, hf⟩ := hd
  rcases open_ints Tryz.underlying62 Tryz.underlying3 cellsOf3 hf with ⟨hcs, _⟩ | ⟨a, len, cap', zs, hcs, _, hl, hm, hz, hx, hcell, hwf⟩
  · simp [Value.cells] at hcs
    obtain ⟨rfl, rfl, rfl⟩ := hcs
    exact ⟨none, 0, 0, [], rfl, rfl, (fun j u h => by simp at h), by omega⟩
  · simp [Value.cells] at hcs
    obtain ⟨rfl, rfl, rfl⟩ := hcs
    have hzl : n ≤ zs.length := by rw [hz]; split <;> omega
    have hd : d = .slice (lits .i64 (zs.take n)) (lits .i64 (zs.drop n)) := congrArg Prod.fst hx
    have h1 := hzz ((lits .i64 (zs.take n) : List (DataW H)).length * 8 + (lits .i64 (zs.drop n) : List (DataW H)).length * 8) (by
      rw [hd]; simp [DataW.weights, Tryz.underlying62, bytes3]; left; omega)
    simp only [lits, List.length_map, List.length_take, List.length_drop, reachBytes] at h1
    refine ⟨some a, n, cap, zs.take n, rfl, by simp; omega, ?_, by omega⟩
    intro j u hu
    rw [List.getElem?_take] at hu
    split at hu
    · rename_i hj
      have hj2 : j < zs.length := by omega
      have hc := hcell j hj2
      refine ⟨a, rfl, ?_⟩
      rw [hc]
      simp [List.getD_eq_getElem?_getD, hu]
    · cases hu
set_option maxRecDepth 100000 in
/-- An argument of fates. -/
theorem open_fatesArg {w : World} {base : Nat} {spare : Nat → Bool} {held : Bool} {r : Reach} {b0 : Nat} {v : Value} {d : DataW H} {ps : List MemPlace} (hval : Value.okWide Tryz.prog w r b0 29 v) (hd : DataW.Trod enc Tryz.prog w base spare held 29 v d ps) (hz : ∀ n ∈ d.weights Tryz.prog 29, n ≤ reachBytes) :
    ∃ ao n cap, ∃ F : List (Int × Int), v = .slice ao n cap ∧ F.length = n ∧ FIn w ao cap F := by
  obtain ⟨ao, n, cap, rfl⟩ := okWide_slice Tryz.underlying29 hval
  obtain ⟨fuel, h⟩ := hd
  have h : DataW.trod enc Tryz.prog w base spare held fuel 29 [.slice ao n cap] = some (d, ps) := h
  obtain ⟨ao', cap', R, e, hB⟩ := open_fates h hz
  simp only [List.cons.injEq, and_true, Value.slice.injEq] at e
  obtain ⟨rfl, rfl, rfl⟩ := e
  exact ⟨_, _, _, R, rfl, rfl, hB⟩
end Go.Proofs.YtonokaelbpfjnaaGreatDoor
/- fill. -/
namespace Go.Proofs.YtonokaelbpfjnaaGreatDoor
open Go.RowKit Ap
attribute [local go_sem ↓] Go.wp_at_zero Go.wp_at_succ
/-- One byte of fill. -/
def fb (x i : Int) : Int := wrap64 (wrap64 (x * 7) + wrap64 (i * wrap64 (x.tmod 3 + 1))) % 256
theorem fb_byte (x i : Int) : 0 ≤ fb x i ∧ fb x i < 256 := by unfold fb; omega
def fillN (x : Int) (n : Nat) : List Nat := (List.range n).map fun (i : Nat) => (fb x (i : Int)).toNat
theorem fillN_length (x : Int) (n : Nat) : (fillN x n).length = n := by simp [fillN]
theorem fillN_bytes (x : Int) (n : Nat) : Bytes (fillN x n) := by
  intro y hy
  unfold fillN at hy
  obtain ⟨i, _, rfl⟩ := List.mem_map.1 hy
  have := fb_byte x i
  omega
/-- The row on the way. -/
def frow (x : Int) (n j : Nat) : List Value := bv (fillN x j) ++ bv (zs (n - j))
theorem frow_length (x : Int) (n j : Nat) (h : j ≤ n) : (frow x n j).length = n := by simp [frow, bv, fillN_length, zs]; omega
theorem frow_zero (x : Int) (n : Nat) : frow x n 0 = bv (zs n) := by simp [frow, fillN, bv]
theorem frow_end (x : Int) (n : Nat) : frow x n n = bv (fillN x n) := by simp [frow, zs, bv]
theorem frow_get (x : Int) (n j : Nat) (h : j < n) : (frow x n j)[j]? = some (.int .u8 0) := by
  have hl : (bv (fillN x j)).length = j := by simp [bv, fillN_length]
  unfold frow
  rw [List.getElem?_append_right (by omega), hl, Nat.sub_self]
  unfold bv zs
  rw [List.getElem?_map, List.getElem?_replicate, if_pos (by omega)]
  rfl
theorem frow_set (x : Int) (n j : Nat) (h : j < n) : (frow x n j).set j (.int .u8 (fb x (j : Int))) = frow x n (j + 1) := by
  have e : n - j = (n - (j + 1)) + 1 := by omega
  have hb := fb_byte x j
  have hl : (bv (fillN x j)).length = j := by simp [bv, fillN_length]
  unfold frow
  rw [List.set_append_right _ _ (by omega), hl, Nat.sub_self, e]
  have e2 : fillN x (j + 1) = fillN x j ++ [(fb x (j : Int)).toNat] := by simp [fillN, List.range_succ]
  have e3 : (((fb x (j : Int)).toNat : Nat) : Int) = fb x j := by omega
  rw [e2]
  simp [bv, zs, List.replicate_succ, e3]
set_option maxHeartbeats 2000000 in
theorem fill_any (x : Int) (n : Nat) (hn : n ≤ 65536) (w : World) : Calls Tryz.prog 23 #[.int .i64 x, .int .i64 (n : Int)] w fun e w' => e = .returned (.slice (some ⟨w.heap.size, 0, none⟩) n n) ∧ w'.heap[w.heap.size]? = some (.cells (bv (fillN x n)).toArray 5 (0, 0)) ∧ w.grownBy w' none := by
  have hmk : ∀ w, (Instr.makeSlice 36 (.int .i64 (n : Int)) (.int .i64 (n : Int))).run Tryz.prog w = .ok (.slice (some ⟨w.heap.size, 0, none⟩) n n) (w.alloc (.cells (bv (zs n)).toArray 5)) := make_bytes n (by omega)
  have b1 := heap_alloc_new w (.cells (bv (zs n)).toArray 5)
  have H1 := hide (And.intro b1 (World.grownBy_alloc w (.cells (bv (zs n)).toArray 5) none))
  clear b1
  go_enter Tryz.func23, Tryz.ntmps23
  go_wp2
  generalize w.alloc (.cells (bv (zs n)).toArray 5) = w1 at *
  generalize hB : w.heap.size = B at *
  have HB := hide hB
  clear hB hmk
  go_loopg [6] n (fun k i wr => ∃ j : Nat, k + j = n ∧ i = .int .i64 (j : Int) ∧ wr.heap[B]? = some (.cells (frow x n j).toArray 5 (0, 0)) ∧ w.grownBy wr none)
  case atStart => exact ⟨0, by omega, rfl, by rw [frow_zero]; exact H1.out.1, H1.out.2⟩
  case round =>
    obtain ⟨j, hkj, rfl, hb, hg⟩ := hrel
    by_cases hk : 0 < gk
    · have hj0 : (0 : Int) ≤ (j : Int) := by omega
      have hj1 : (j : Int) < (n : Int) := by omega
      have hc : wr.cell? ⟨B, j, none⟩ = some (.int .u8 0) := by rw [cell_row hb, frow_get x n j (by omega)]
      have hf := free_row hb j
      have H2 : Hid ((wr.setCell ⟨B, j, none⟩ (.int .u8 (fb x (j : Int)))).heap[B]? = some (.cells (frow x n (j + 1)).toArray 5 (0, 0)) ∧ w.grownBy (wr.setCell ⟨B, j, none⟩ (.int .u8 (fb x (j : Int)))) none) := by
        have := row_setCell hb j (.int .u8 (fb x (j : Int)))
        rw [frow_set x n j (by omega)] at this
        exact ⟨this, grown_then hg (grown_setCell wr B j _) (fun i e => by cases e; exact Or.inl (by have := HB.out; omega))⟩
      clear hb hg
      go_wp2
      go_roundg (gk - 1)
      case measure => omega
      case rel => exact ⟨j + 1, by omega, by go_num, H2.out.1, H2.out.2⟩
    · have hj : j = n := by omega
      subst hj
      rw [frow_end] at hb
      have H2 := hide (And.intro hb hg)
      clear hb hg
      go_wp2
      go_ret
      rw [HB.out]
      exact ⟨rfl, H2.out.1, H2.out.2⟩
end Go.Proofs.YtonokaelbpfjnaaGreatDoor
/- Saves in turns: numbers alone. -/
namespace Go.Proofs.YtonokaelbpfjnaaGreatDoor
open Go.RowKit Ap
/-- Where save number j goes. -/
def tF (j : Nat) : Nat := if j % 2 = 0 then 0 else 5
theorem tF_le (j : Nat) : tF j ≤ 5 := by unfold tF; split <;> omega
theorem tF_two (j : Nat) : tF (j + 1 + 1) = tF j := by unfold tF; rw [show (j + 1 + 1) % 2 = j % 2 by omega]
theorem tF_apart (j : Nat) : tF j + 4 ≤ tF (j + 1) ∨ tF (j + 1) + 4 ≤ tF j := by
  unfold tF
  by_cases h : j % 2 = 0
  · left; rw [if_pos h, if_neg (by omega)]; omega
  · right; rw [if_neg h, if_pos (by omega)]; omega
/-- Behind save number i: the newest one, the one ahead of it. -/
structure Tn (T : List Nat) (i : Nat) (hd : Fm.Hd) (xs : List Nat) : Prop where
  len : T.length = 640
  byt : Bytes T
  new : Holds T 64 (tF i) hd xs
  lx : xs.length ≤ 192
  g : hd.g = (i : Int) + 1
  old : (i = 0 ∧ Blank T 64 (tF (i + 1))) ∨ ∃ hd' ys, Holds T 64 (tF (i + 1)) hd' ys ∧ ys.length ≤ 192 ∧ hd'.g = (i : Int)
theorem Tn.found {T : List Nat} {i : Nat} {hd : Fm.Hd} {xs : List Nat} (h : Tn T i hd xs) : Found T 64 0 5 4 (hd, some xs, ((i % 2 : Nat) : Int)) := by
  have hn := h.new
  have ho := h.old
  have hg := h.g
  by_cases he : i % 2 = 0
  · rw [show tF i = 0 from if_pos he] at hn
    rw [show tF (i + 1) = 5 from if_neg (by omega)] at ho
    rw [he]
    rcases ho with ⟨_, hb⟩ | ⟨hd', ys, hb, hl, hg'⟩
    · exact found_a (by decide) hn h.lx hb
    · exact found_ab (by decide) hn h.lx hb hl (by omega)
  · rw [show tF i = 5 from if_neg he] at hn
    rw [show tF (i + 1) = 0 from if_pos (by omega)] at ho
    rw [show i % 2 = 1 by omega]
    rcases ho with ⟨h0, _⟩ | ⟨hd', ys, hb, hl, hg'⟩
    · omega
    · exact found_ba (by decide) hb hl hn h.lx (by omega)
/-- Behind j saves. -/
def Tst (T : List Nat) (j : Nat) : Prop := (j = 0 ∧ T = zs 640) ∨ ∃ i hd xs, j = i + 1 ∧ Tn T i hd xs
theorem Tst.len {T : List Nat} {j : Nat} (h : Tst T j) : T.length = 640 := by
  rcases h with ⟨_, rfl⟩ | ⟨i, hd, xs, _, h⟩
  · exact zs_len 640
  · exact h.len
theorem Tst.byt {T : List Nat} {j : Nat} (h : Tst T j) : Bytes T := by
  rcases h with ⟨_, rfl⟩ | ⟨i, hd, xs, _, h⟩
  · exact bytes_zs 640
  · exact h.byt
theorem tF_fit (j : Nat) {xs : List Nat} (h : xs.length ≤ 192) : tF j * 64 + 64 + xs.length ≤ 10 * 64 := by have := tF_le j; omega
theorem Tst.saved {T : List Nat} {j : Nat} (h : Tst T j) (hj : j ≤ 100) : ∃ R : Fm.Hd × Option (List Nat) × Int, Found T 64 0 5 4 R ∧ R.1.g = (j : Int) ∧ (if R.2.2 = 0 then 5 else 0) = tF j ∧ ∀ (cov : Int) (xs : List Nat), 0 ≤ cov → cov < 18446744073709551616 → Bytes xs → xs.length ≤ 192 → Tn (svT T 64 (tF j) (nxH R.1 cov xs) xs) j (nxH R.1 cov xs) xs := by
  rcases h with ⟨rfl, rfl⟩ | ⟨i, hd, ys, rfl, h⟩
  · refine ⟨(hd0, none, -1), found0, rfl, rfl, fun cov xs h0 h1 hx hl => ?_⟩
    have hok := nxH_ok (h := hd0) hd0_ok (by decide) h0 h1 hx (by omega)
    exact ⟨svT_len (n := 10) (by decide) (zs_len 640) (tF_fit 0 hl), bytes_svT (bytes_zs _) hx, holds_saved (n := 10) (by decide) (zs_len 640) (tF_fit 0 hl) hok.1 hok.2 rfl rfl, hl, rfl,
      .inl ⟨rfl, Blank.other (n := 10) (C := 4) (blank_zero 640 64 5 (by decide) (by decide)) (by decide) (zs_len 640) (tF_fit 0 hl) hl (by decide) (tF_apart 0)⟩⟩
  · refine ⟨(hd, some ys, ((i % 2 : Nat) : Int)), h.found, by have := h.g; simp only; omega, ?_, fun cov xs h0 h1 hx hl => ?_⟩
    · unfold tF
      by_cases he : i % 2 = 0
      · rw [if_neg (show ¬ (i + 1) % 2 = 0 by omega)]
        simp [he]
      · rw [if_pos (show (i + 1) % 2 = 0 by omega)]
        simp only
        rw [if_neg (by omega)]
    · have hg := h.g
      have hok := nxH_ok (h := hd) h.new.ok (by omega) h0 h1 hx (by omega)
      refine ⟨svT_len (n := 10) (by decide) h.len (tF_fit _ hl), bytes_svT h.byt hx, holds_saved (n := 10) (by decide) h.len (tF_fit _ hl) hok.1 hok.2 rfl rfl, hl, by show hd.g + 1 = _; omega, .inr ⟨hd, ys, ?_, h.lx, by omega⟩⟩
      rw [tF_two]
      have ha := tF_apart (i + 1)
      rw [tF_two] at ha
      exact h.new.other (n := 10) (C := 4) (by decide) h.len (tF_fit _ hl) hl h.lx (by decide) ha
end Go.Proofs.YtonokaelbpfjnaaGreatDoor
/- Saves in turns: the steps of one turn. -/
namespace Go.Proofs.YtonokaelbpfjnaaGreatDoor
open Go.RowKit Ap
section
variable {w0 w w' w4 w5 w6 : World} {X b sl ra rb Fa Fb C K g c B : Nat} {s : Dv} {k : Dk} {D : List Nat} {W : List Wt}
/-- A header's box is written: the slots stay. -/
theorem BoP.row35 {cc : Array Value} {fr : Nat × Nat} (h : BoP w0 w X b sl ra rb Fa Fb C s k D W) (hK : w.heap[K]? = some (.cells cc 35 fr)) (hl : w0.heap.size ≤ K) (hg : w.grownBy w' (some K)) : BoP w0 w' X b sl ra rb Fa Fb C s k D W := by
  have hf := h.dev.far hK (by decide) (by decide) (by decide) (by decide)
  have off : ∀ {i : Nat} {c2 : Array Value} {t : TypeId} {f2 : Nat × Nat}, w.heap[i]? = some (.cells c2 t f2) → t ≠ 35 → w'.heap[i]? = some (.cells c2 t f2) := by
    intro i c2 t f2 hi ht
    refine (hg.block i (row_lt hi) (fun e => ?_)).trans hi
    cases e
    rw [hK] at hi
    simp at hi
    exact ht hi.2.1.symm
  obtain ⟨c, r, hb⟩ := h.box
  refine ⟨⟨c, r, off hb (by decide)⟩, h.dev.row hg ?_ hf.2 hl, ⟨off h.hra.head (by decide)⟩, ⟨off h.hrb.head (by decide)⟩, ⟨off h.hsl.head (by decide)⟩⟩
  rintro (e | ⟨x, hx, e⟩)
  · exact hf.1 e
  · have h3 := (h.dev.disk.disk.waits x hx).2.2.2
    rw [e, hK] at h3
    simp at h3
theorem BoP.low35 {cc : Array Value} {fr : Nat × Nat} (h : BoP w0 w X b sl ra rb Fa Fb C s k D W) (hK : w.heap[K]? = some (.cells cc 35 fr)) : ¬ (k.own K ∨ K = b) := h.far35 hK
/-- Behind a save: the slots, the body that was saved. -/
structure SvQ (B : Nat) (w0 w6 : World) (X b sl ra rb c g : Nat) (k : Dk) (T : List Nat) (ys : List Nat) : Prop where
  bo : BoP w0 w6 X b sl ra rb 0 5 4 (frD c) k T []
  row : w6.heap[g]? = some (.cells (bv ys).toArray 5 (0, 0))
  off : ¬ (k.own g ∨ g = b)
  cn : c ≤ B
theorem SvQ.grown {T ys : List Nat} (h : SvQ B w0 w X b sl ra rb c g k T ys) (hg : w.grownBy w' none) : SvQ B w0 w' X b sl ra rb c g k T ys :=
  ⟨h.bo.grown hg, (hg.block _ (row_lt h.row) (by simp)).trans h.row, h.off, h.cn⟩
theorem SvQ.row35 {T ys : List Nat} {cc : Array Value} {fr : Nat × Nat} (h : SvQ B w0 w X b sl ra rb c g k T ys) (hK : w.heap[K]? = some (.cells cc 35 fr)) (hl : w0.heap.size ≤ K) (hg : w.grownBy w' (some K)) : SvQ B w0 w' X b sl ra rb c g k T ys := by
  refine ⟨h.bo.row35 hK hl hg, (hg.block _ (row_lt h.row) (fun e => ?_)).trans h.row, h.off, h.cn⟩
  have e2 := h.row
  cases e
  rw [hK] at e2
  simp at e2
theorem SvQ.meetA {T ys : List Nat} (hd : Fm.Hd) (h : SvQ B w0 w6 X b sl ra rb c g k T ys) : SvQ B w0 (w6.alloc (.cells #[.int .u64 hd.g, .int .u64 hd.c, .int .i64 hd.n, .int .u32 hd.s] 35)) X b sl ra rb c g k T ys ∧ (w6.alloc (.cells #[.int .u64 hd.g, .int .u64 hd.c, .int .i64 hd.n, .int .u32 hd.s] 35)).heap[w6.heap.size]? = some (.cells (Fm.hdC hd).toArray 35 (0, 0)) :=
  ⟨h.grown (World.grownBy_alloc _ _ none), heap_alloc_new w6 _⟩
theorem SvQ.meetB {T ys : List Nat} {u v x y : Value} (hd : Fm.Hd) (h : SvQ B w0 w6 X b sl ra rb c g k T ys) (R : w6.heap[K]? = some (.cells [u, v, x, y].toArray 35 (0, 0))) (hl : w0.heap.size ≤ K) : SvQ B w0 ((((w6.setCell ⟨K, 0, none⟩ (.int .u64 hd.g)).setCell ⟨K, 1, none⟩ (.int .u64 hd.c)).setCell ⟨K, 2, none⟩ (.int .i64 hd.n)).setCell ⟨K, 3, none⟩ (.int .u32 hd.s)) X b sl ra rb c g k T ys ∧ ((((w6.setCell ⟨K, 0, none⟩ (.int .u64 hd.g)).setCell ⟨K, 1, none⟩ (.int .u64 hd.c)).setCell ⟨K, 2, none⟩ (.int .i64 hd.n)).setCell ⟨K, 3, none⟩ (.int .u32 hd.s)).heap[K]? = some (.cells (Fm.hdC hd).toArray 35 (0, 0)) := by
  obtain ⟨eb, eg⟩ := Fm.set4 R (.int .u64 hd.g) (.int .u64 hd.c) (.int .i64 hd.n) (.int .u32 hd.s)
  exact ⟨h.row35 R hl eg, eb⟩
end
/-- A copy of bytes, where it lies. -/
structure CpA (w4 w : World) (ao : Option Addr) (ac : Nat) (ys : List Nat) : Prop where
  at_ : At w ao ys
  cap : ys.length ≤ ac
  lo : ∀ a, ao = some a → w4.heap.size ≤ a.block ∧ a.block < w.heap.size
theorem CpA.grown {w4 w w' : World} {ao : Option Addr} {ac : Nat} {ys : List Nat} (h : CpA w4 w ao ac ys) (hg : w.grownBy w' none) : CpA w4 w' ao ac ys :=
  ⟨h.at_.grown hg, h.cap, fun a e => ⟨(h.lo a e).1, Nat.lt_of_lt_of_le (h.lo a e).2 hg.size⟩⟩
theorem copy_turn {w4 w : World} {g : Nat} {ys : List Nat} (hl : ys.length ≤ 1000) (h4 : w4.heap.size ≤ w.heap.size) (hr : w.heap[g]? = some (.cells (bv ys).toArray 5 (0, 0))) : Calls Tryz.prog 28 #[.slice (some ⟨g, 0, none⟩) ys.length ys.length] w fun e w' => ∃ ao ac, e = .returned (.slice ao ys.length ac) ∧ CpA w4 w' ao ac ys ∧ w.grownBy w' none := by
  refine (copyBytes_any (some ⟨g, 0, none⟩) ys.length ys.length ys w rfl (at_row hr) (fun e => by cases e) (by omega)).mono ?_
  rintro e w' ⟨v, rfl, ho, hg⟩
  obtain ⟨ao, ac, rfl, h1, h2, h3, h4', h5, h6⟩ := own_at ho
  exact ⟨ao, ac, rfl, ⟨h4', by omega, fun a e => ⟨Nat.le_trans h4 (h6 a e).2.1, (h6 a e).2.2⟩⟩, hg⟩
/-- A save of a copy. -/
theorem save_turn {w0 w4 w : World} {X b sl ra rb c g B : Nat} {k : Dk} {T ys : List Nat} {R : Fm.Hd × Option (List Nat) × Int} (h4 : SvQ B w0 w4 X b sl ra rb c g k T ys) (hg4 : w4.grownBy w none) (hc : c ≤ 100) (hf : Found T 64 0 5 4 R) (hlen : T.length = 640) (hB : Bytes T) (hT : Fm.Cr.Tab w0) (hy : Bytes ys) (hl : ys.length ≤ 192) (cov : Int) (hc0 : 0 ≤ cov) (hc1 : cov < 18446744073709551616) (hgn : R.1.g ≠ 18446744073709551615) {F : Nat} (hF : (if R.2.2 = 0 then 5 else 0) = F) (ao : Option Addr) (ac : Nat) (hcp : CpA w4 w ao ac ys) :
    Calls Tryz.prog 27 #[.pointer (some ⟨sl, 0, none⟩), .slice ao ys.length ac, .int .u64 cov] w fun e w' => ∃ k' c', e = .returned (.tuple #[Fm.hdV (nxH R.1 cov ys), .int .i64 0]) ∧ SvQ 120 w0 w' X b sl ra rb c' g k' (svT T 64 F (nxH R.1 cov ys) ys) ys ∧ ∀ (K : Nat) (cc : Array Value) (fr : Nat × Nat), w.heap[K]? = some (.cells cc 35 fr) → w'.heap[K]? = some (.cells cc 35 fr) := by
  have h5 := h4.grown hg4
  refine (saveF h5.bo hf hlen (by decide) (by decide) (by decide) (by omega) hT hB ao ys.length ac ys rfl hcp.at_ hcp.cap hl hy (fun a e => ⟨(hcp.lo a e).2, fun _ => ?_⟩) cov hc0 hc1 hgn).mono ?_
  · have := new_off h4.bo.dev (hcp.lo a e).1
    exact ⟨fun e => this (.inl e), fun e => this (.inr e)⟩
  · rintro e w' ⟨k', c', rfl, hc', hB', hm⟩
    rw [hF] at hB'
    refine ⟨k', c', rfl, ⟨hB', hm.kept.at h5.row h5.off, ?_, by omega⟩, fun K cc fr hK => hm.kept.at hK (h5.bo.far35 hK)⟩
    rintro (e | e)
    · rcases hm.own g e with e | e
      · exact h5.off (.inl e)
      · have := row_lt h5.row; omega
    · exact h5.off (.inr e)
end Go.Proofs.YtonokaelbpfjnaaGreatDoor
/- CopyFates. -/
namespace Go.Proofs.YtonokaelbpfjnaaGreatDoor
open Go.RowKit Ap
attribute [local go_sem ↓] Go.wp_at_zero Go.wp_at_succ
set_option maxHeartbeats 1000000 in
theorem copyFates_any (fo : Option Addr) (fc : Nat) (F : List (Int × Int)) (w : World) (hF : FIn w fo fc F) :
    Calls Tryz.prog 30 #[.slice fo F.length fc] w fun e w' => ∃ fo' cap', e = .returned (.slice fo' F.length cap') ∧ FatesAt w' fo' F ∧ (∀ a, fo' = some a → 0 < F.length → w.heap.size ≤ a.block) ∧ w.grownBy w' none := by
  have HF := hide hF
  clear hF
  obtain ⟨n, hn⟩ : ∃ n, n = F.length := ⟨_, rfl⟩
  rw [← hn]
  have HN := hide hn.symm
  clear hn
  go_enter Tryz.func30, Tryz.ntmps30
  go_wp2_with (at_builtin; refine wpList_append_fates rfl (.tmp 4) (.tmp 5) rfl w.heap.size (.slice none 0 0) 0 [] rfl (World.ownsRow_nil _ _ _ _) fo n fc F rfl HN.out HF.out.at_ (fun e => by have := HF.out.nil e; rw [HN.out] at this; exact this) (by have := HF.out.size; have := HN.out; omega) (Nat.le_refl _) ?_)
  intro v' w' hown hg
  have hg2 : w.grownBy w' none := hg
  obtain ⟨ao, cap, rfl, h1, h2, h3⟩ := own_form hown
  have HH : Hid (FatesAt w' ao F ∧ (∀ a, ao = some a → 0 < F.length → w.heap.size ≤ a.block) ∧ w.grownBy w' none) := by
    refine ⟨?_, ?_, hg2⟩
    · by_cases hz : 0 < n
      · obtain ⟨g, rfl⟩ := h1 hz
        exact own_fates hown
      · intro j p hj
        have := (List.getElem?_eq_some_iff.1 hj).1
        have := HN.out
        omega
    · intro a e hl
      subst e
      exact (own_block hown a.block rfl).1
  clear hown hg hg2 h1 h2 h3
  go_wp2
  go_ret
  exact ⟨_, _, rfl, HH.out.1, fun a e hl => HH.out.2.1 a e (by rw [HN.out]; exact hl), HH.out.2.2⟩
end Go.Proofs.YtonokaelbpfjnaaGreatDoor
/- Saves in turns: what waits, a restart, a load. -/
namespace Go.Proofs.YtonokaelbpfjnaaGreatDoor
open Go.RowKit Ap
/-- The slots, the body, the header's box. -/
def TuE (N : Nat) (u : World) (X b sl ra rb g K : Nat) (hd : Fm.Hd) (T ys : List Nat) (wr : World) : Prop := ∃ k c, c ≤ N ∧ SvQ 100000 u wr X b sl ra rb c g k T ys ∧ wr.heap[K]? = some (.cells (Fm.hdC hd).toArray 35 (0, 0))
section
variable {u w w' : World} {X b sl ra rb g K N : Nat} {hd : Fm.Hd} {T ys : List Nat}
theorem TuE.grown (h : TuE N u X b sl ra rb g K hd T ys w) (hg : w.grownBy w' none) : TuE N u X b sl ra rb g K hd T ys w' := by
  obtain ⟨k, c, hc, q, hK⟩ := h
  exact ⟨k, c, hc, q.grown hg, (hg.block _ (row_lt hK) (by simp)).trans hK⟩
theorem TuE.cells (h : TuE N u X b sl ra rb g K hd T ys w) : w.cell? ⟨X, 0, none⟩ = some (.pointer (some ⟨b, 0, none⟩)) ∧ w.cell? ⟨X, 1, none⟩ = some (.pointer (some ⟨sl, 0, none⟩)) := by
  obtain ⟨k, c, hc, q, hK⟩ := h
  exact q.bo.cell
theorem TuE.le {M : Nat} (h : TuE N u X b sl ra rb g K hd T ys w) (hM : N ≤ M) : TuE M u X b sl ra rb g K hd T ys w := by
  obtain ⟨k, c, hc, q, hK⟩ := h
  exact ⟨k, c, by omega, q, hK⟩
theorem TuE.gr (h : TuE N u X b sl ra rb g K hd T ys w) : u.grownBy w none := by
  obtain ⟨k, c, hc, q, hK⟩ := h
  exact q.bo.dev.disk.grown
theorem TuE.row (h : TuE N u X b sl ra rb g K hd T ys w) : w.heap[g]? = some (.cells (bv ys).toArray 5 (0, 0)) := by
  obtain ⟨k, c, hc, q, hK⟩ := h
  exact q.row
theorem TuE.box (h : TuE N u X b sl ra rb g K hd T ys w) : w.heap[K]? = some (.cells (Fm.hdC hd).toArray 35 (0, 0)) := by
  obtain ⟨k, c, hc, q, hK⟩ := h
  exact hK
theorem tu_wait (h : TuE N u X b sl ra rb g K hd T ys w) : Calls Tryz.prog 32 #[.pointer (some ⟨b, 0, none⟩)] w fun e w' => e = .returned (.int .i64 0) ∧ w' = w := by
  obtain ⟨k, c, hc, q, hK⟩ := h
  exact dwaiting_any q.bo.dev
/-- Beside fates that lie apart. -/
def TuR (N : Nat) (u : World) (X b sl ra rb g K : Nat) (hd : Fm.Hd) (T ys : List Nat) (F : List (Int × Int)) (fo : Option Addr) (wr : World) : Prop := ∃ k c, c ≤ N ∧ SvQ 100000 u wr X b sl ra rb c g k T ys ∧ wr.heap[K]? = some (.cells (Fm.hdC hd).toArray 35 (0, 0)) ∧ FatesAt wr fo F ∧ ∀ a, fo = some a → 0 < F.length → a.block ≠ k.db ∧ a.block ≠ b
theorem TuR.e {F : List (Int × Int)} {fo : Option Addr} (h : TuR N u X b sl ra rb g K hd T ys F fo w) : TuE N u X b sl ra rb g K hd T ys w := by
  obtain ⟨k, c, hc, q, hK, _⟩ := h
  exact ⟨k, c, hc, q, hK⟩
theorem tu_fates (h : TuE N u X b sl ra rb g K hd T ys w) {F : List (Int × Int)} {fo : Option Addr} {fn fc : Nat} (hfn : F.length = fn) (hF : FIn u fo fc F) : Calls Tryz.prog 30 #[.slice fo fn fc] w fun e w' => ∃ fo' cap', e = .returned (.slice fo' fn cap') ∧ TuR N u X b sl ra rb g K hd T ys F fo' w' := by
  obtain ⟨k, c, hc, q, hK⟩ := h
  subst hfn
  refine (copyFates_any fo fc F w (hF.grown q.bo.dev.disk.grown)).mono ?_
  rintro e w' ⟨fo', cap', rfl, h1, h2, hg⟩
  refine ⟨fo', cap', rfl, k, c, hc, q.grown hg, (hg.block _ (row_lt hK) (by simp)).trans hK, h1, fun a e hl => ?_⟩
  have := new_off q.bo.dev (h2 a e hl)
  exact ⟨fun e => this (.inl (.inr (.inl e))), fun e => this (.inr e)⟩
theorem tu_restart {F : List (Int × Int)} {fo : Option Addr} {fn cap : Nat} (hfn : F.length = fn) (h : TuR N u X b sl ra rb g K hd T ys F fo w) : Calls Tryz.prog 19 #[.pointer (some ⟨b, 0, none⟩), .slice fo fn cap] w fun e w' => e = .returned (.int .i64 0) ∧ TuE 0 u X b sl ra rb g K hd T ys w' := by
  obtain ⟨k, c, hc, q, hK, h1, h2⟩ := h
  refine (restart_any q.bo.dev fo fn cap F hfn h1 h2).mono ?_
  rintro e w' ⟨rfl, D', hD, hm, he⟩
  have he2 : D' = T := by
    have := congrArg Prod.fst he
    exact this
  subst he2
  refine ⟨rfl, k.calm, 0, Nat.le_refl _, ⟨q.bo.moved hD hm.kept, hm.kept.at q.row q.off, ?_, by omega⟩, hm.kept.at hK (q.bo.far35 hK)⟩
  rintro (e | e)
  · rcases hm.own g e with e | e
    · exact q.off (.inl e)
    · have := row_lt q.row; omega
  · exact q.off (.inr e)
theorem tu_load (h : TuE N u X b sl ra rb g K hd T ys w) (hN : N ≤ 1000) (hT : Fm.Cr.Tab u) {R : Fm.Hd × Option (List Nat) × Int} (hf : Found T 64 0 5 4 R) (hR : R.2.1 = some ys) (hB : Bytes T) {p : Nat} (hp : ys.length = p) : Calls Tryz.prog 21 #[.pointer (some ⟨sl, 0, none⟩)] w fun e w' => ∃ G, e = .returned (.tuple #[Fm.hdV R.1, .slice (some ⟨G, 0, none⟩) p p, .int .i64 R.2.2, .int .i64 0]) ∧ TuE (N + 6) u X b sl ra rb g K hd T ys w' ∧ w'.heap[G]? = some (.cells (bv ys).toArray 5 (0, 0)) := by
  obtain ⟨k, c, hc, q, hK⟩ := h
  refine (loadF q.bo hf (by decide) (by decide) (by decide) (by omega) hT hB).mono ?_
  rintro e w' ⟨v, c', rfl, hc', hB', hk, hy⟩
  obtain ⟨G, rfl, hG, hbG⟩ := hy _ hR
  subst hp
  exact ⟨G, rfl, ⟨k, c', by omega, ⟨hB', hk.at q.row q.off, q.off, by have := q.cn; omega⟩, hk.at hK (q.bo.far35 hK)⟩, hbG⟩
/-- A save of a body that is too long. -/
theorem save_long {c : Nat} {k : Dk} (h : BoP u w X b sl ra rb 0 5 4 (frD c) k T []) (hc : c ≤ 100) (hB : Bytes T) (hT : Fm.Cr.Tab u) (hr : w.heap[g]? = some (.cells (bv ys).toArray 5 (0, 0))) (hl : ys.length = 193) (hy : Bytes ys) (ho : ¬ (k.own g ∨ g = b)) :
    Calls Tryz.prog 27 #[.pointer (some ⟨sl, 0, none⟩), .slice (some ⟨g, 0, none⟩) 193 193, .int .u64 0] w fun e w' => e = .returned (.tuple #[.agg #[.int .u64 0, .int .u64 0, .int .i64 0, .int .u32 0], .int .i64 3]) ∧ u.grownBy w' none ∧ w'.cell? ⟨X, 1, none⟩ = some (.pointer (some ⟨sl, 0, none⟩)) ∧ ∀ (K : Nat) (cc : Array Value) (fr : Nat × Nat), w.heap[K]? = some (.cells cc 35 fr) → w'.heap[K]? = some (.cells cc 35 fr) := by
  have q := save_at h.hsl h.dev h.hra h.hrb (by decide) (by decide) (by decide) (by omega) (by decide) (by decide) (show (frD c).cnt ≤ 7000 from by show c ≤ 7000; omega) (by simp) hT (by show Bytes (now 64 T []); rw [now_nil]; exact hB) (some ⟨g, 0, none⟩) 193 193 ys hl (at_row hr) (Nat.le_refl _) (by decide) hy (fun a e => by cases e; exact ⟨row_lt hr, fun _ => ⟨fun e => ho (.inl e), fun e => ho (.inr e)⟩⟩) 0 (by decide) (by decide)
  have hs : svA 64 4 0 5 0 ys (frD c) T (abs []) = ⟨3, hd0, frD c, T, abs []⟩ := by unfold svA; rw [if_pos (by rw [hl]; decide)]
  rw [hs] at q
  refine q.mono ?_
  rintro e w' ⟨rfl, k', W', p⟩
  exact ⟨rfl, p.dev.disk.grown, (h.moved p.dev p.mov.kept).cell.2, fun K cc fr hK => p.mov.kept.at hK (h.far35 hK)⟩
theorem cell_set4 {w3 : World} {v : Value} (h : w3.cell? ⟨X, 1, none⟩ = some v) (hne : K ≠ X) (a b c d : Value) : ((((w3.setCell ⟨K, 0, none⟩ a).setCell ⟨K, 1, none⟩ b).setCell ⟨K, 2, none⟩ c).setCell ⟨K, 3, none⟩ d).cell? ⟨X, 1, none⟩ = some v := by
  rw [World.cell?_setCell_other _ _ _ _ (fun e => hne (congrArg Addr.block e)), World.cell?_setCell_other _ _ _ _ (fun e => hne (congrArg Addr.block e)), World.cell?_setCell_other _ _ _ _ (fun e => hne (congrArg Addr.block e)), World.cell?_setCell_other _ _ _ _ (fun e => hne (congrArg Addr.block e))]
  exact h
theorem grown_set4 {w3 : World} {x y z v : Value} (h : u.grownBy w3 none) (hK : w3.heap[K]? = some (.cells [x, y, z, v].toArray 35 (0, 0))) (hl : u.heap.size ≤ K) (a b c d : Value) : u.grownBy ((((w3.setCell ⟨K, 0, none⟩ a).setCell ⟨K, 1, none⟩ b).setCell ⟨K, 2, none⟩ c).setCell ⟨K, 3, none⟩ d) none :=
  grown_then h (Fm.set4 hK a b c d).2 (fun i e => by cases e; exact Or.inl hl)
end
end Go.Proofs.YtonokaelbpfjnaaGreatDoor
