/- Texts joined: FHd1, FLent, FHd2, Sl1, Sl2, Sl3. -/
import Derived.Test.YtonokaelbpfjnabGreatDoorJkAi
import Derived.Lib.SlBytesConst
import Derived.Lib.SmallJoins
import Derived.Deep.QuietTactic
import Derived.BigQuiet
import Derived.Laws.BytesArg
import Derived.Test.YtonokaelbpfjnabGreatDoorJkAg
/- Header. -/
namespace Go.Proofs.YtonokaelbpfjnabGreatDoor.Fm
open Go.RowKit
attribute [local go_sem ↓] Go.wp_at_zero Go.wp_at_succ
/-- Inside Header: the header in its box B, the Writer X. -/
structure HdS (w wr : World) (B X : Nat) (h : Hd) (bs : List Int) : Prop where
  box : wr.heap[B]? = some (.cells (hdC h).toArray 25 (0, 0))
  wra : WrAt wr X bs
  ne : B ≠ X
  low : w.heap.size ≤ B ∧ w.heap.size ≤ X
  gr : w.grownBy wr none
theorem HdS.next {w wr wr' : World} {B X : Nat} {h : Hd} {bs bs' : List Int} (s : HdS w wr B X h bs) (hW : WrAt wr' X bs') (hg : wr.grownBy wr' (some X)) : HdS w wr' B X h bs' :=
  ⟨(hg.block B (row_lt s.box) (by simp; exact s.ne)).trans s.box, hW, s.ne, s.low, grown_then s.gr hg (fun j e => by cases e; exact Or.inl s.low.2)⟩
theorem HdS.grown {w wr wr' : World} {B X : Nat} {h : Hd} {bs : List Int} (s : HdS w wr B X h bs) (hg : wr.grownBy wr' none) : HdS w wr' B X h bs :=
  ⟨(hg.block B (row_lt s.box) (by simp)).trans s.box, s.wra.kept hg (by simp) (NoBlock.none _), s.ne, s.low, grown_trans s.gr hg⟩
theorem HdS.cells {w wr : World} {B X : Nat} {h : Hd} {bs : List Int} (s : HdS w wr B X h bs) : wr.cell? ⟨B, 0, none⟩ = some (.int .u64 h.g) ∧ wr.cell? ⟨B, 1, none⟩ = some (.int .u64 h.c) ∧ wr.cell? ⟨B, 2, none⟩ = some (.int .i64 h.n) ∧ wr.cell? ⟨B, 3, none⟩ = some (.int .u32 h.s) :=
  ⟨cell_row s.box 0, cell_row s.box 1, cell_row s.box 2, cell_row s.box 3⟩
theorem hd_parts (h : Hd) : [] ++ [71, 65, 78, 71] ++ leB h.g 8 ++ leB h.c 8 ++ leB h.n 4 ++ leB h.s 4 = h.head := by simp [Hd.head]
set_option maxRecDepth 20000 in
set_option maxHeartbeats 4000000 in
theorem header_any (h : Hd) (hok : h.Ok) (hm : h.May) (w : World) (hT : Tab w) (hw : 0 < w.heap.size) :
    Calls Tryz.prog 12 #[hdV h] w fun r w' => ∃ g, r = .returned (.tuple #[.slice (some ⟨g, 0, none⟩) 32 32, .int .i64 0]) ∧ w.heap.size ≤ g ∧ w'.heap[g]? = some (.cells (h.out.map (Value.int .u8)).toArray 5 (0, 0)) ∧ w.grownBy w' none := by
  have HM := hide (And.intro hok (And.intro hm (And.intro hT hw)))
  have hmy := hide (mayBe_any h)
  rw [show decide h.May = true from decide_eq_true hm] at hmy
  clear hok hT hw hm
  unfold hdV at hmy ⊢
  have hb : (w.alloc (.cells #[.int .u64 h.g, .int .u64 h.c, .int .i64 h.n, .int .u32 h.s] 25)).heap[w.heap.size]? = some (.cells (hdC h).toArray 25 (0, 0)) := heap_alloc_new w _
  have c0 : (w.alloc (.cells #[.int .u64 h.g, .int .u64 h.c, .int .i64 h.n, .int .u32 h.s] 25)).cell? ⟨w.heap.size, 0, none⟩ = some (.int .u64 h.g) := cell_row hb 0
  have c1 : (w.alloc (.cells #[.int .u64 h.g, .int .u64 h.c, .int .i64 h.n, .int .u32 h.s] 25)).cell? ⟨w.heap.size, 1, none⟩ = some (.int .u64 h.c) := cell_row hb 1
  have c2 : (w.alloc (.cells #[.int .u64 h.g, .int .u64 h.c, .int .i64 h.n, .int .u32 h.s] 25)).cell? ⟨w.heap.size, 2, none⟩ = some (.int .i64 h.n) := cell_row hb 2
  have c3 : (w.alloc (.cells #[.int .u64 h.g, .int .u64 h.c, .int .i64 h.n, .int .u32 h.s] 25)).cell? ⟨w.heap.size, 3, none⟩ = some (.int .u32 h.s) := cell_row hb 3
  have HG := hide (And.intro hb (World.grownBy_alloc w (.cells #[.int .u64 h.g, .int .u64 h.c, .int .i64 h.n, .int .u32 h.s] 25) none))
  clear hb
  go_enter Tryz.func12, Tryz.ntmps12
  go_wp2_with fail
  generalize (w.alloc (.cells #[.int .u64 h.g, .int .u64 h.c, .int .i64 h.n, .int .u32 h.s] 25)) = w1 at *
  refine (hmy.out w1).mono ?_
  rintro e w2 ⟨rfl, g2⟩
  have P2 : Hid (HdS w (w2.alloc (.cells Tryz.zeroCells94 94)) w.heap.size w2.heap.size h []) := by
    have hw := wr_zero w2
    have g3 := World.grownBy_alloc w2 (.cells Tryz.zeroCells94 94) none
    have g4 := grown_trans g2 g3
    have h5 := row_lt HG.out.1
    have h6 := g2.size
    exact ⟨(g4.block _ h5 (by simp)).trans HG.out.1, hw, by omega, ⟨Nat.le_refl _, Nat.le_trans HG.out.2.size h6⟩, grown_trans HG.out.2 g4⟩
  have hcv := Go.Joins.run_convert_bytes_const_at (P := Tryz.prog) (w2.alloc (.cells Tryz.zeroCells94 94)) 39 5 #[.int .u8 71, .int .u8 65, .int .u8 78, .int .u8 71] 4 4 (w2.heap.size + 1) (by simp) Tryz.underlying39 Tryz.underlying5
  have g3 := World.grownBy_alloc (w2.alloc (.cells Tryz.zeroCells94 94)) (.cells #[.int .u8 71, .int .u8 65, .int .u8 78, .int .u8 71] 5 (4, 5)) none
  have hat : At ((w2.alloc (.cells Tryz.zeroCells94 94)).alloc (.cells #[.int .u8 71, .int .u8 65, .int .u8 78, .int .u8 71] 5 (4, 5))) (some ⟨w2.heap.size + 1, 0, none⟩) [71, 65, 78, 71] := by
    intro j u hu
    refine ⟨_, rfl, ?_⟩
    rw [Addr.add_lit, Nat.zero_add, Go.Joins.cell_alloc_mark_at _ _ _ _ _ _ (by simp)]
    match j, hu with
    | 0, h => cases h; rfl
    | 1, h => cases h; rfl
    | 2, h => cases h; rfl
    | 3, h => cases h; rfl
    | j + 4, h => simp at h
  have hpt := put_any w2.heap.size 4 [] [71, 65, 78, 71] (some ⟨w2.heap.size + 1, 0, none⟩) 4 _ (P2.out.grown g3).wra rfl hat (fun a e => by cases e; simp) (by omega) (by unfold maxLen; omega) (by simp)
  have P3 := hide (And.intro (P2.out.grown g3) hpt)
  clear c0 c1 c2 c3 g2 HG hmy hat hpt g3 P2
  go_wp2_with fail
  clear hcv
  generalize ((w2.alloc (.cells Tryz.zeroCells94 94)).alloc (.cells #[.int .u8 71, .int .u8 65, .int .u8 78, .int .u8 71] 5 (4, 5))) = w3 at *
  generalize w2.heap.size = X at *
  refine P3.out.2.mono ?_
  rintro e w4 ⟨rfl, hW, hg⟩
  have P4 := hide (P3.out.1.next hW hg)
  clear hW hg P3
  generalize w.heap.size = B at *
  obtain ⟨c0, c1, c2, c3⟩ := P4.out.cells
  go_wp2_with fail
  refine (eight_any X _ h.g w4 P4.out.wra HM.out.1.g0 HM.out.1.g1 (by simp)).mono ?_
  rintro e w5 ⟨rfl, hW, hg⟩
  have P5 := hide (P4.out.next hW hg)
  clear hW hg P4 c0 c1 c2 c3
  obtain ⟨c0, c1, c2, c3⟩ := P5.out.cells
  go_wp2_with fail
  refine (eight_any X _ h.c w5 P5.out.wra HM.out.1.c0 HM.out.1.c1 (by simp [leB_length])).mono ?_
  rintro e w6 ⟨rfl, hW, hg⟩
  have P6 := hide (P5.out.next hW hg)
  clear hW hg P5 c0 c1 c2 c3
  have hwn : IntKind.u32.wrap h.n = h.n := by rw [IntKind.wrap_u32]; have := HM.out.2.1; unfold Hd.May at this; omega
  obtain ⟨c0, c1, c2, c3⟩ := P6.out.cells
  go_wp2_with fail
  refine (four_any X _ h.n w6 P6.out.wra HM.out.2.1.2.1 (by have := HM.out.2.1; unfold Hd.May at this; omega) (by simp [leB_length])).mono ?_
  rintro e w7 ⟨rfl, hW, hg⟩
  have P7 := hide (P6.out.next hW hg)
  clear hW hg P6 c0 c1 c2 c3
  obtain ⟨c0, c1, c2, c3⟩ := P7.out.cells
  go_wp2_with fail
  refine (four_any X _ h.s w7 P7.out.wra HM.out.1.s0 HM.out.1.s1 (by simp [leB_length])).mono ?_
  rintro e w8 ⟨rfl, hW, hg⟩
  have P8 := hide (P7.out.next hW hg)
  clear hW hg P7 c0 c1 c2 c3
  have P9 : Hid (HdS w w8 B X h h.head) := by have := P8.out; rw [hd_parts] at this; exact this
  clear P8 hwn
  go_wp2_with fail
  refine (out_any X h.head w8 P9.out.wra (by rw [h.head_length]; omega)).mono ?_
  rintro e w9 ⟨rfl, hr, hg⟩
  have P10 := hide (P9.out.grown hg)
  have HR := hide hr
  have T10 : Hid (Tab w9) := HM.out.2.2.1.grown P10.out.gr
  clear hr hg P9
  go_wp2_with fail
  refine (sum_any _ _ _ h.head w9 rfl h.head_byt (at_row HR.out) T10.out (by rw [h.head_length]; omega)).mono ?_
  rintro e wx ⟨rfl, hwx⟩
  obtain rfl := hwx.symm
  have hs := sumI_lt h.head_byt
  go_wp2_with fail
  refine (four_any X h.head (sumI h.head) w9 P10.out.wra hs.1 hs.2 (by rw [h.head_length]; omega)).mono ?_
  rintro e w11 ⟨rfl, hW, hg⟩
  have P11 := hide (P10.out.next hW hg)
  clear hW hg P10 HR T10
  go_wp2_with fail
  refine (out_any X _ w11 P11.out.wra (by simp [leB_length, h.head_length])).mono ?_
  rintro e w12 ⟨rfl, hr, hg⟩
  rw [show h.head ++ leB (sumI h.head) 4 = h.out from rfl] at hr ⊢
  rw [h.out_length]
  have HR := hide (And.intro hr hg)
  clear hr hg hs
  go_wp2
  go_ret2
  exact ⟨_, rfl, P11.out.gr.size, HR.out.1, grown_trans P11.out.gr HR.out.2⟩
end Go.Proofs.YtonokaelbpfjnabGreatDoor.Fm
/- The contracts of the statements' own helpers for bytes that are lent: markByte, LentBytes, KeptBytes, OverBytes. -/
namespace Go.Proofs.YtonokaelbpfjnabGreatDoor.Fm
open Go.RowKit
attribute [local go_sem ↓] Go.wp_at_zero Go.wp_at_succ

/-- The mark of a place. -/
def markB (k i : Int) : Int := IntKind.u64.wrap ((1000003 * (k + 7) + i) * 11400714819323198485) / 72057594037927936 % 256
theorem markB_byte (k i : Int) : 0 ≤ markB k i ∧ markB k i < 256 := by unfold markB; omega
set_option maxHeartbeats 400000 in
theorem mark_any (k i : Int) (w : World) (_hk0 : 0 ≤ k) (_hk : k ≤ 1000000) (_hi0 : 0 ≤ i) (_hi : i ≤ 1000000000000000000) :
    Calls Tryz.prog 97 #[.int .i64 k, .int .i64 i] w fun e w' => e = .returned (.int .u8 (markB k i)) ∧ w' = w := by
  go_enter Tryz.func97, Tryz.ntmps97
  go_wp2
  go_ret
  exact ⟨rfl, rfl⟩

/-- The first j marks. -/
def marks (k : Int) (j : Nat) : List Int := (List.range j).map fun (i : Nat) => markB k (i : Int)
theorem marks_length (k : Int) (j : Nat) : (marks k j).length = j := by simp [marks]
theorem marks_succ (k : Int) (j : Nat) : marks k (j + 1) = marks k j ++ [markB k (j : Int)] := by simp [marks, List.range_succ]
theorem marks_get (k : Int) (j i : Nat) (h : i < j) : (marks k j)[i]? = some (markB k (i : Int)) := by simp [marks, h]

theorem slice_to (ao : Option Addr) (len cap n : Nat) (h : n ≤ cap) (w : World) : (Instr.slice 39 (.slice ao len cap) none (some (.int .i64 (n : Int))) none).run Tryz.prog w = .ok (.slice ao n cap) w := by
  simp [Instr.slice, run_underlying Tryz.underlying39, Instr.sliceBounds, Instr.sliceBound, asIntOf, h]
  intro _; cases ao <;> simp [Addr.add]
theorem make_cap (n : Nat) (h : n ≤ 140737488355328) (w : World) : (Instr.makeSlice 39 (.int .i64 0) (.int .i64 ((n : Int) + 12))).run Tryz.prog w = .ok (.slice (some ⟨w.heap.size, 0, none⟩) 0 (n + 12)) (w.alloc (.cells (zrow (n + 12)).toArray 5)) := by
  obtain ⟨i0, hi, hz0, hz1, hz2⟩ := info_parts Tryz.info5
  rw [run_make (P := Tryz.prog) (w := w) 39 5 i0 (.int .u8 0) Tryz.underlying39 hi hz0 .i64 .i64 0 ((n : Int) + 12) (by omega) (by omega) (by rw [hz2]; omega) (by omega), hz1]
  have e : ((n : Int) + 12).toNat = n + 12 := by omega
  rw [e, Nat.mul_one]
  show Result.ok _ (w.alloc (.cells (madeCells #[.int .u8 0] (n + 12)) 5)) = _
  rw [made_zrow]
  rfl

/-- Bytes that were lent: they, and twelve marks behind their end. -/
def LentAt (w : World) (B : Nat) (v : Value) (xs : List Int) : Prop :=
  ∃ g cap, v = .slice (some ⟨g, 0, none⟩) xs.length cap ∧ w.ownsRow B 5 1 (.slice (some ⟨g, 0, none⟩) (xs.length + 12) cap) (xs.length + 12) ((xs ++ marks 1 12).map (Value.int .u8))

theorem cell_new (w : World) (v : Value) (t : TypeId) : (w.alloc (.cells #[v] t)).cell? ⟨w.heap.size, 0, none⟩ = some v := by
  rw [cell_of_row _ _ 0 #[v] t (0, 0) (heap_alloc_new w _)]; rfl

theorem grown_drewN (w : World) (n : Nat) (row : Option Nat) : w.grownBy (w.drewN n) row := ⟨rfl, rfl, rfl, Nat.le_refl _, fun _ _ _ => rfl⟩
/-- What is lent, as bytes that lie somewhere: they and the marks. -/
theorem LentAt.all {w : World} {B : Nat} {v : Value} {xs : List Int} (h : LentAt w B v xs) : ∃ g cap, v = .slice (some ⟨g, 0, none⟩) xs.length cap ∧ xs.length + 12 ≤ cap ∧ cap ≤ maxLen ∧ B ≤ g ∧ g < w.heap.size ∧
    At w (some ⟨g, 0, none⟩) (xs ++ marks 1 12) ∧ ∃ cur, w.heap[g]? = some (.cells cur 5 (0, 0)) ∧ cur.size = cap := by
  obtain ⟨g, cap, rfl, hown⟩ := h
  obtain ⟨ao', cap', hv, hl, hnc, hcm, hat', hnil', h5⟩ := own_at hown
  cases hv
  obtain ⟨hb, hlt, _⟩ := h5 _ rfl
  rcases hown.2 with ⟨hx, _⟩ | ⟨g2, cap2, cur, hv, _, hc, _, _, hs, _⟩
  · cases hx
  · cases hv
    exact ⟨g, cap, rfl, hnc, hcm, hb, hlt, hat', cur, hc, by simpa using hs⟩
theorem LentAt.at {w : World} {B : Nat} {v : Value} {xs : List Int} (h : LentAt w B v xs) : ∃ g cap, v = .slice (some ⟨g, 0, none⟩) xs.length cap ∧ xs.length ≤ cap ∧ cap ≤ maxLen ∧ B ≤ g ∧ g < w.heap.size ∧ At w (some ⟨g, 0, none⟩) xs ∧ ∃ cur, w.heap[g]? = some (.cells cur 5 (0, 0)) := by
  obtain ⟨g, cap, hv, h1, h2, h3, h4, h5, cur, hc, _⟩ := h.all
  refine ⟨g, cap, hv, by omega, h2, h3, h4, ?_, cur, hc⟩
  intro j u hu
  exact h5 j u (by rw [List.getElem?_append_left (List.getElem?_eq_some_iff.1 hu).1, hu])

end Go.Proofs.YtonokaelbpfjnabGreatDoor.Fm
/- Read. -/
namespace Go.Proofs.YtonokaelbpfjnabGreatDoor.Fm
open Go.RowKit
attribute [local go_sem ↓] Go.wp_at_zero Go.wp_at_succ
def zHd : Hd := ⟨0, 0, 0, 0⟩
/-- The header in bytes, one piece behind the other. -/
def hdOf (E : List Int) : Hd := ⟨leV ((E.drop 4).take 8), leV (((E.drop 4).drop 8).take 8), leV ((((E.drop 4).drop 8).drop 8).take 4), leV (((((E.drop 4).drop 8).drop 8).drop 4).take 4)⟩
/-- They begin as they should, and their sum is theirs. -/
def HGood (E : List Int) : Prop := E.take 4 = [71, 65, 78, 71] ∧ leV ((((((E.drop 4).drop 8).drop 8).drop 4).drop 4).take 4) = sumI (E.take 28)
instance (E : List Int) : Decidable (HGood E) := by unfold HGood; exact inferInstance
/-- What Read answers. -/
def readH (xs : List Int) : Hd × Int := if xs.length < 32 then (zHd, 4) else if HGood (xs.take 32) then (if (hdOf (xs.take 32)).May then (hdOf (xs.take 32), 0) else (zHd, 2)) else (zHd, 81)
theorem takeF_ok (xs : List Int) (n : Nat) (h : n ≤ xs.length) : takeF xs 0 (n : Int) = (xs.take n, xs.drop n, 0) := by
  unfold takeF
  rw [if_neg (by simp), if_neg (by omega), if_neg (by omega)]
  simp
/-- Inside Read: the answer's box, the Reader. -/
structure RdS (w wr : World) (A : Nat) (R : List Int) : Prop where
  box : wr.heap[w.heap.size]? = some (.cells (hdC zHd).toArray 25 (0, 0))
  rd : RdAt wr A R 0
  lo : w.heap.size < A
  gr : w.grownBy wr none
theorem RdS.next {w wr wr' : World} {A : Nat} {R R' : List Int} (h : RdS w wr A R) (hW : RdAt wr' A R' 0) (hg : wr.grownBy wr' (some A)) : RdS w wr' A R' :=
  ⟨(hg.block _ (row_lt h.box) (by have := h.lo; simp; omega)).trans h.box, hW, h.lo, grown_then h.gr hg (fun j e => by cases e; exact Or.inl (Nat.le_of_lt h.lo))⟩
theorem magic_str {ns : List Int} (hb : Byt ns) (hl : ns.length = 4) (h : ns ≠ [71, 65, 78, 71]) : ((strOfNums ns).toList == [71, 65, 78, 71]) = false := by
  apply beq_false_of_ne
  intro e
  apply h
  obtain ⟨a, b, c, d, rfl⟩ : ∃ a b c d, ns = [a, b, c, d] := by
    match ns, hl with
    | [a, b, c, d], _ => exact ⟨a, b, c, d, rfl⟩
  have e2 : (strOfNums [a, b, c, d]).data.toList = [71, 65, 78, 71] := by rw [← Go.ByteArray.toList_eq]; exact e
  have h1 := hb a (by simp)
  have h2 := hb b (by simp)
  have h3 := hb c (by simp)
  have h4 := hb d (by simp)
  have e3 : [UInt8.ofNat a.toNat, UInt8.ofNat b.toNat, UInt8.ofNat c.toNat, UInt8.ofNat d.toNat] = [71, 65, 78, 71] := e2
  simp only [List.cons.injEq, and_true] at e3
  have f : ∀ (x : Int) (k : UInt8), 0 ≤ x ∧ x < 256 → UInt8.ofNat x.toNat = k → x = (k.toNat : Int) := by
    intro x k hx e
    have := congrArg UInt8.toNat e
    rw [UInt8.toNat_ofNat'] at this
    omega
  rw [f a _ h1 e3.1, f b _ h2 e3.2.1, f c _ h3 e3.2.2.1, f d _ h4 e3.2.2.2]
  rfl
theorem results_cell_tmp1 {fn : Func} {p u : Tmp} {ty : TypeId} (h : fn.results = #[.cell p ty, .tmp u]) (tmps : Array Value) (P : Program) (w : World) :
    (results fn tmps).run P w =
      ((asAddr (tmps.getD p undef)).run P w).andThen fun a w₁ => ((loadVar ty a).run P w₁).andThen fun v w₂ => .ok (.tuple #[v, tmps.getD u undef]) w₂ := by
  simp only [results, h]
  simp [Sem.run_bind, Result.andThen]
theorem box4 {w : World} {g : Nat} {t : TypeId} {x y z u : Value} (h : w.heap[g]? = some (.cells [x, y, z, u].toArray t (0, 0))) : w.cell? ⟨g, 0, none⟩ = some x ∧ w.cell? ⟨g, 1, none⟩ = some y ∧ w.cell? ⟨g, 2, none⟩ = some z ∧ w.cell? ⟨g, 3, none⟩ = some u :=
  ⟨cell_row h 0, cell_row h 1, cell_row h 2, cell_row h 3⟩
theorem set4 {w : World} {g : Nat} {t : TypeId} {x y z u : Value} (h : w.heap[g]? = some (.cells [x, y, z, u].toArray t (0, 0))) (a b c d : Value) :
    ((((w.setCell ⟨g, 0, none⟩ a).setCell ⟨g, 1, none⟩ b).setCell ⟨g, 2, none⟩ c).setCell ⟨g, 3, none⟩ d).heap[g]? = some (.cells [a, b, c, d].toArray t (0, 0)) ∧ w.grownBy ((((w.setCell ⟨g, 0, none⟩ a).setCell ⟨g, 1, none⟩ b).setCell ⟨g, 2, none⟩ c).setCell ⟨g, 3, none⟩ d) (some g) :=
  ⟨row_setCell (row_setCell (row_setCell (row_setCell h 0 a) 1 b) 2 c) 3 d, grown_trans (grown_trans (grown_trans (grown_setCell w g 0 a) (grown_setCell _ g 1 b)) (grown_setCell _ g 2 c)) (grown_setCell _ g 3 d)⟩
/-- Behind the header's pieces: the answer's box, the header's. -/
structure RdZ (w wr : World) (X : Nat) (h : Hd) : Prop where
  box : wr.heap[w.heap.size]? = some (.cells (hdC zHd).toArray 25 (0, 0))
  hb : wr.heap[X]? = some (.cells (hdC h).toArray 25 (0, 0))
  lo : w.heap.size < X
  gr : w.grownBy wr none
theorem RdZ.row {w wr wr' : World} {X k : Nat} {h : Hd} (s : RdZ w wr X h) (hg : wr.grownBy wr' (some k)) (h1 : k ≠ X) (h2 : w.heap.size < k) : RdZ w wr' X h :=
  ⟨(hg.block _ (row_lt s.box) (by simp; omega)).trans s.box, (hg.block _ (row_lt s.hb) (by simp; omega)).trans s.hb, s.lo, grown_then s.gr hg (fun j e => by cases e; exact Or.inl (Nat.le_of_lt h2))⟩
theorem RdZ.grown {w wr wr' : World} {X : Nat} {h : Hd} (s : RdZ w wr X h) (hg : wr.grownBy wr' none) : RdZ w wr' X h :=
  ⟨(hg.block _ (row_lt s.box) (by simp)).trans s.box, (hg.block _ (row_lt s.hb) (by simp)).trans s.hb, s.lo, grown_trans s.gr hg⟩
set_option maxRecDepth 20000 in
set_option maxHeartbeats 8000000 in
theorem read_any (xs : List Int) (hB : Byt xs) (ao : Option Addr) (n cap : Nat) (w : World) (hn : xs.length = n) (hat : At w ao xs) (hnil : ao = none → n = 0 ∧ cap = 0) (hc : n ≤ cap) (hm : n ≤ 140737488355328) (hT : Tab w) :
    Calls Tryz.prog 51 #[.slice ao n cap] w fun r w' => r = .returned (.tuple #[hdV (readH xs).1, .int .i64 (readH xs).2]) ∧ w.grownBy w' none := by
  have HF := hide (And.intro hB (And.intro hn (And.intro hat (And.intro hnil (And.intro hc hT)))))
  clear hB hat hnil hT
  have hb0 : (w.alloc (.cells (hdC zHd).toArray 25)).heap[w.heap.size]? = some (.cells (hdC zHd).toArray 25 (0, 0)) := heap_alloc_new w _
  have HG := hide (And.intro hb0 (World.grownBy_alloc w (.cells (hdC zHd).toArray 25) none))
  clear hb0
  by_cases h32 : n < 32
  · have hr : readH xs = (zHd, 4) := by unfold readH; rw [if_pos (by omega)]
    rw [hr]
    have HR := hide hr
    clear hr
    have h32' : (n : Int) < 32 := by omega
    go_enter Tryz.func51, Tryz.ntmps51
    go_wp2_with fail
    obtain ⟨e0, e1, e2, e3⟩ := box4 (heap_alloc_new w (.cells [Value.int .u64 0, .int .u64 0, .int .i64 0, .int .u32 0].toArray 25))
    have EG := hide (World.grownBy_alloc w (.cells #[.int .u64 0, .int .u64 0, .int .i64 0, .int .u32 0] 25) none)
    generalize (w.alloc (.cells #[.int .u64 0, .int .u64 0, .int .i64 0, .int .u32 0] 25)) = w1 at *
    refine bodyPost_ret (v := .tuple #[.agg #[.int .u64 0, .int .u64 0, .int .i64 0, .int .u32 0], .int .i64 4]) ?_ rfl ?_
    · rw [results_cell_tmp1 rfl]; go_simp
    exact ⟨rfl, EG.out⟩
  · have hst := slice_to ao n cap 32 (by omega)
    have h32' : (32 : Int) ≤ (n : Int) := by omega
    have hEl : (xs.take 32).length = 32 := by rw [List.length_take, hn]; omega
    have hEb : Byt (xs.take 32) := HF.out.1.take 32
    have hr : readH xs = (if HGood (xs.take 32) then (if (hdOf (xs.take 32)).May then (hdOf (xs.take 32), 0) else (zHd, 2)) else (zHd, 81)) := by unfold readH; rw [if_neg (by omega)]
    obtain ⟨res, hres⟩ : ∃ res, res = readH xs := ⟨_, rfl⟩
    rw [← hres]
    have HRES := hide (hres.trans hr)
    clear hres
    have hE28 : (xs.take 32).take 28 = xs.take 28 := by rw [List.take_take]; rfl
    have HX := hide (And.intro hE28 trivial)
    have hof := of_any ao 32 cap (xs.take 32) (w.alloc (.cells #[.int .u64 0, .int .u64 0, .int .i64 0, .int .u32 0] 25)) hEl ((HF.out.2.2.1.kept (World.grownBy_alloc w _ none) (fun _ _ e => by cases e)).take 32) (fun e => by have := (HF.out.2.2.2.1 e).1; omega) (by omega)
    clear hr hE28
    generalize xs.take 32 = E at *
    have HE := hide (And.intro hEl hEb)
    clear hEl hEb
    go_enter Tryz.func51, Tryz.ntmps51
    go_wp2_with fail
    refine hof.mono ?_
    clear hof hst
    rintro e w1 ⟨X, rfl, hX, hR, hg⟩
    have P1 : Hid (RdS w w1 X E) := by
      have hb := heap_alloc_new w (.cells [Value.int .u64 0, .int .u64 0, .int .i64 0, .int .u32 0].toArray 25)
      refine ⟨(hg.block _ (row_lt hb) (by simp)).trans hb, hR, ?_, grown_trans (World.grownBy_alloc w _ none) hg⟩
      rw [World.size_alloc] at hX
      omega
    clear hR hg hX
    have t1 : takeF E 0 4 = (E.take 4, E.drop 4, 0) := takeF_ok E 4 (by have := HE.out.1; omega)
    have htk := take_any X E 0 4 w1 P1.out.rd (by decide) (by decide) (by have := HE.out.1; omega)
    rw [t1] at htk
    go_wp2_with fail
    refine htk.mono ?_
    clear htk t1
    rintro e w2 ⟨v, rfl, hv, hR, hg⟩
    have P2 := hide (P1.out.next hR hg)
    clear hR hg P1
    have hl4 : (E.take 4).length = 4 := by rw [List.length_take]; have := HE.out.1; omega
    rw [hl4] at hv
    obtain ⟨gv, cv, rfl⟩ := Go.Joins.ownsRow_form hv (by omega)
    have hcv : (convert 39 9 (.slice (some ⟨gv, 0, none⟩) 4 cv)).run Tryz.prog w2 = .ok (.string (strOfNums (E.take 4))) w2 := by
      refine run_convert_bytes_arg (P := Tryz.prog) w2 39 5 Tryz.underlying39 Tryz.underlying5 gv 0 4 cv (E.take 4) hl4 ?_ 9 Tryz.underlying9
      intro i hi
      obtain ⟨ao2, cap2, e2, _, _, _, hat2, _, _⟩ := own_at hv
      cases e2
      obtain ⟨u, hu⟩ : ∃ u, (E.take 4)[i]? = some u := ⟨_, List.getElem?_eq_getElem (by omega)⟩
      obtain ⟨a, ea, hc⟩ := hat2 i u hu
      cases ea
      rw [Addr.add_lit] at hc
      rw [hc, List.getD_eq_getElem?_getD, hu]
      rfl
    clear hv
    obtain ⟨r1, hr1⟩ : ∃ r, r = E.drop 4 := ⟨_, rfl⟩
    obtain ⟨r2, hr2⟩ : ∃ r, r = r1.drop 8 := ⟨_, rfl⟩
    obtain ⟨r3, hr3⟩ : ∃ r, r = r2.drop 8 := ⟨_, rfl⟩
    obtain ⟨r4, hr4⟩ : ∃ r, r = r3.drop 4 := ⟨_, rfl⟩
    obtain ⟨r5, hr5⟩ : ∃ r, r = r4.drop 4 := ⟨_, rfl⟩
    have b1 : Byt r1 := by rw [hr1]; exact HE.out.2.drop 4
    have b2 : Byt r2 := by rw [hr2]; exact b1.drop 8
    have b3 : Byt r3 := by rw [hr3]; exact b2.drop 8
    have b4 : Byt r4 := by rw [hr4]; exact b3.drop 4
    have b5 : Byt r5 := by rw [hr5]; exact b4.drop 4
    have l1 : r1.length = 28 := by rw [hr1, List.length_drop, HE.out.1]
    have l2 : r2.length = 20 := by rw [hr2, List.length_drop, l1]
    have l3 : r3.length = 12 := by rw [hr3, List.length_drop, l2]
    have l4 : r4.length = 8 := by rw [hr4, List.length_drop, l3]
    have l5 : r5.length = 4 := by rw [hr5, List.length_drop, l4]
    have k1 : takeF r1 0 8 = (r1.take 8, r2, 0) := by rw [hr2]; exact takeF_ok _ 8 (by omega)
    have k2 : takeF r2 0 8 = (r2.take 8, r3, 0) := by rw [hr3]; exact takeF_ok _ 8 (by omega)
    have k3 : takeF r3 0 4 = (r3.take 4, r4, 0) := by rw [hr4]; exact takeF_ok _ 4 (by omega)
    have k4 : takeF r4 0 4 = (r4.take 4, r5, 0) := by rw [hr5]; exact takeF_ok _ 4 (by omega)
    have k5 : takeF r5 0 4 = (r5.take 4, r5.drop 4, 0) := takeF_ok _ 4 (by omega)
    have hd1 : (hdOf E).g = leV (r1.take 8) := by rw [hr1]; rfl
    have hd2 : (hdOf E).c = leV (r2.take 8) := by rw [hr2, hr1]; rfl
    have hd3 : (hdOf E).n = leV (r3.take 4) := by rw [hr3, hr2, hr1]; rfl
    have hd4 : (hdOf E).s = leV (r4.take 4) := by rw [hr4, hr3, hr2, hr1]; rfl
    have hgd : HGood E ↔ E.take 4 = [71, 65, 78, 71] ∧ leV (r5.take 4) = sumI (E.take 28) := by rw [hr5, hr4, hr3, hr2, hr1]; rfl
    have hn3 := takeF_value b3 0 4
    rw [show takeF r3 0 ((4 : Nat) : Int) = (r3.take 4, r4, 0) from k3] at hn3
    have hn5 := takeF_value b5 0 4
    rw [show takeF r5 0 ((4 : Nat) : Int) = (r5.take 4, r5.drop 4, 0) from k5] at hn5
    have P2b : Hid (RdS w w2 X r1) := by rw [hr1]; exact P2.out
    have HL := hide (And.intro (And.intro k1 (And.intro k2 (And.intro k3 (And.intro k4 k5)))) (And.intro b1 (And.intro b2 (And.intro b3 (And.intro b4 b5)))))
    rw [← hd3] at hn3
    have HD := hide (And.intro hd1 (And.intro hd2 (And.intro hd3 (And.intro hd4 (And.intro hgd (And.intro hn3 hn5))))))
    clear b1 b2 b3 b4 b5 l1 l2 l3 l4 l5 k1 k2 k3 k4 k5 hd1 hd2 hd3 hd4 hgd hn3 hn5 hr5 hr4 hr3 hr2 hr1 P2
    obtain ⟨sv, hsv⟩ : ∃ sv, sv = strOfNums (E.take 4) := ⟨_, rfl⟩
    rw [← hsv] at hcv
    have HSV := hide hsv
    clear hsv
    go_wp2_with fail
    clear hcv
    have q1 := reight_any X r1 0 w2 P2b.out.rd HL.out.2.1
    rw [HL.out.1.1, ← HD.out.1] at q1
    refine q1.mono ?_
    clear q1
    rintro e w3 ⟨rfl, hR, hg⟩
    have P3 := hide (P2b.out.next hR hg)
    clear hR hg P2b
    have q1 := reight_any X r2 0 w3 P3.out.rd HL.out.2.2.1
    rw [HL.out.1.2.1, ← HD.out.2.1] at q1
    go_wp2_with fail
    refine q1.mono ?_
    clear q1
    rintro e w4 ⟨rfl, hR, hg⟩
    have P4 := hide (P3.out.next hR hg)
    clear hR hg P3
    have q1 := rfour_any X r3 0 w4 P4.out.rd HL.out.2.2.2.1
    rw [HL.out.1.2.2.1, ← HD.out.2.2.1] at q1
    go_wp2_with fail
    refine q1.mono ?_
    clear q1
    rintro e w5 ⟨rfl, hR, hg⟩
    have P5 := hide (P4.out.next hR hg)
    clear hR hg P4
    have q1 := rfour_any X r4 0 w5 P5.out.rd HL.out.2.2.2.2.1
    rw [HL.out.1.2.2.2.1, ← HD.out.2.2.2.1] at q1
    have hwn : IntKind.i64.wrap (hdOf E).n = (hdOf E).n := by
      rw [IntKind.wrap_i64]
      have h1 := HD.out.2.2.2.2.2.1
      have h2 : (hdOf E).n < 4294967296 := h1.2
      have h3 : 0 ≤ (hdOf E).n := h1.1
      omega
    go_wp2_with fail
    refine q1.mono ?_
    clear q1 hwn
    rintro e w6 ⟨rfl, hR, hg⟩
    have P6 := hide (P5.out.next hR hg)
    clear hR hg P5
    generalize hdOf E = h at *
    have hst : ∀ w', (Instr.slice 39 (.slice ao n cap) none (some (.int .i64 28)) none).run Tryz.prog w' = .ok (.slice ao 28 cap) w' := slice_to ao n cap 28 (by omega)
    have h28 : (28 : Int) ≤ (n : Int) := by omega
    have h28c : (28 : Int) ≤ (cap : Int) := by omega
    have P7 : Hid (RdS w (w6.alloc (.cells #[.int .u64 h.g, .int .u64 h.c, .int .i64 h.n, .int .u32 h.s] 25)) X r5 ∧ RdZ w (w6.alloc (.cells #[.int .u64 h.g, .int .u64 h.c, .int .i64 h.n, .int .u32 h.s] 25)) w6.heap.size h ∧ X ≠ w6.heap.size) := by
      have g7 := World.grownBy_alloc w6 (.cells #[.int .u64 h.g, .int .u64 h.c, .int .i64 h.n, .int .u32 h.s] 25) none
      have b7 := heap_alloc_new w6 (.cells (hdC h).toArray 25)
      have hbx := (g7.block _ (row_lt P6.out.box) (by simp)).trans P6.out.box
      have hlt := row_lt P6.out.box
      have hlx := P6.out.rd.lt
      exact ⟨⟨hbx, P6.out.rd.kept g7 (by simp) (NoBytes.none _), P6.out.lo, grown_trans P6.out.gr g7⟩, ⟨hbx, b7, hlt, grown_trans P6.out.gr g7⟩, by omega⟩
    clear P6
    go_wp2_with fail
    generalize (w6.alloc (.cells #[.int .u64 h.g, .int .u64 h.c, .int .i64 h.n, .int .u32 h.s] 25)) = w7 at *
    generalize w6.heap.size = Y at *
    by_cases h4 : E.take 4 = [71, 65, 78, 71]
    · have hsv : sv = ⟨#[71, 65, 78, 71]⟩ := by rw [HSV.out, h4]; rfl
      subst hsv
      have HFo : Hid (∀ w1 : World, w7.grownBy w1 none → Calls Tryz.prog 92 #[.pointer (some ⟨X, 0, none⟩)] w1 fun e w2 => e = .returned (.int .u32 (leV (r5.take 4))) ∧ RdZ w w2 Y h) := by
        intro w1 hg
        have q := rfour_any X r5 0 w1 (P7.out.1.rd.kept hg (by simp) (NoBytes.none _)) HL.out.2.2.2.2.2
        rw [HL.out.1.2.2.2.2] at q
        refine q.mono ?_
        rintro e w2 ⟨rfl, _, hg2⟩
        exact ⟨rfl, (P7.out.2.1.grown hg).row hg2 P7.out.2.2 P7.out.1.lo⟩
      have HSu : Hid (∀ w1 : World, w.grownBy w1 none → Calls Tryz.prog 26 #[.slice ao 28 cap] w1 fun e w2 => e = .returned (.int .u32 (sumI (E.take 28))) ∧ w2 = w1) := by
        intro w1 hg
        rw [HX.out.1]
        exact sum_any ao 28 cap (xs.take 28) w1 (by rw [List.length_take, HF.out.2.1]; omega) (HF.out.1.take 28) ((HF.out.2.2.1.kept hg (fun _ _ e => by cases e)).take 28) (HF.out.2.2.2.2.2.grown hg) (by omega)
      have hgd : HGood E ↔ leV (r5.take 4) = sumI (E.take 28) := by rw [HD.out.2.2.2.2.1]; exact ⟨fun a => a.2, fun a => ⟨h4, a⟩⟩
      have HGD := hide hgd
      clear hgd
      generalize leV (r5.take 4) = LV at *
      generalize sumI (E.take 28) = SV at *
      by_cases hlv : LV = SV
      · subst hlv
        have hG : HGood E := HGD.out.2 rfl
        go_region_held3 (fun _ => True) (first | trivial | assumption) ((first | (go_at_call 92; refine (HFo.out _ (grown_drew _ none)).mono ?_; rintro e3 w3 ⟨rfl, z3⟩; have Z3 := hide z3; clear z3) | (go_at_call 26; refine (HSu.out _ (by first | exact Z3.out.gr | exact grown_trans Z3.out.gr (grown_drew _ none))).mono ?_; rintro e4 w4 ⟨rfl, hw4⟩)))
        all_goals
          obtain rfl := hw4.symm
          clear HFo HSu hst
          obtain ⟨c0, c1, c2, c3⟩ := box4 Z3.out.hb
          have hmy := mayBe_any h
          unfold hdV at hmy
          by_cases hM : h.May
          · rw [show decide h.May = true from decide_eq_true hM] at hmy
            go_wp2_with fail
            refine (hmy _).mono ?_
            clear hmy c0 c1 c2 c3
            rintro e w8 ⟨rfl, g8⟩
            have Z8 := hide (Z3.out.grown g8)
            obtain ⟨c0, c1, c2, c3⟩ := box4 Z8.out.hb
            obtain ⟨d0, d1, d2, d3⟩ := box4 Z8.out.box
            have f0 := free_row Z8.out.box 0
            have f1 := free_row Z8.out.box 1
            have f2 := free_row Z8.out.box 2
            have f3 := free_row Z8.out.box 3
            clear g8 Z3
            go_wp2
            obtain ⟨eb, eg⟩ := set4 Z8.out.box (.int .u64 h.g) (.int .u64 h.c) (.int .i64 h.n) (.int .u32 h.s)
            obtain ⟨e0, e1, e2, e3⟩ := box4 eb
            have EG := hide (grown_then Z8.out.gr eg (fun j e => by cases e; exact Or.inl (Nat.le_refl _)))
            clear c0 c1 c2 c3 d0 d1 d2 d3 f0 f1 f2 f3 eb eg
            generalize (((w8.setCell ⟨w.heap.size, 0, none⟩ (.int .u64 h.g)).setCell ⟨w.heap.size, 1, none⟩ (.int .u64 h.c)).setCell ⟨w.heap.size, 2, none⟩ (.int .i64 h.n)).setCell ⟨w.heap.size, 3, none⟩ (.int .u32 h.s) = w9 at *
            refine bodyPost_ret (v := .tuple #[.agg #[.int .u64 h.g, .int .u64 h.c, .int .i64 h.n, .int .u32 h.s], .int .i64 0]) ?_ rfl ?_
            · rw [results_cell_tmp1 rfl]; go_simp
            exact ⟨by rw [HRES.out, if_pos hG, if_pos hM]; rfl, EG.out⟩
          · rw [show decide h.May = false from decide_eq_false hM] at hmy
            go_wp2_with fail
            refine (hmy _).mono ?_
            clear hmy c0 c1 c2 c3
            rintro e w8 ⟨rfl, g8⟩
            have Z8 := hide (Z3.out.grown g8)
            obtain ⟨c0, c1, c2, c3⟩ := box4 Z8.out.hb
            obtain ⟨d0, d1, d2, d3⟩ := box4 Z8.out.box
            have f0 := free_row Z8.out.box 0
            have f1 := free_row Z8.out.box 1
            have f2 := free_row Z8.out.box 2
            have f3 := free_row Z8.out.box 3
            clear g8 Z3
            go_wp2
            obtain ⟨eb, eg⟩ := set4 Z8.out.box (.int .u64 0) (.int .u64 0) (.int .i64 0) (.int .u32 0)
            obtain ⟨e0, e1, e2, e3⟩ := box4 eb
            have EG := hide (grown_then Z8.out.gr eg (fun j e => by cases e; exact Or.inl (Nat.le_refl _)))
            clear c0 c1 c2 c3 d0 d1 d2 d3 f0 f1 f2 f3 eb eg
            generalize (((w8.setCell ⟨w.heap.size, 0, none⟩ (.int .u64 0)).setCell ⟨w.heap.size, 1, none⟩ (.int .u64 0)).setCell ⟨w.heap.size, 2, none⟩ (.int .i64 0)).setCell ⟨w.heap.size, 3, none⟩ (.int .u32 0) = w9 at *
            refine bodyPost_ret (v := .tuple #[.agg #[.int .u64 0, .int .u64 0, .int .i64 0, .int .u32 0], .int .i64 2]) ?_ rfl ?_
            · rw [results_cell_tmp1 rfl]; go_simp
            exact ⟨by rw [HRES.out, if_pos hG, if_neg hM]; rfl, EG.out⟩
      · have hG : ¬ HGood E := fun a => hlv (HGD.out.1 a)
        have hd1 : (LV != SV) = true := by simpa using hlv
        have hd2 : (LV == SV) = false := by simpa using hlv
        go_region_held3 (fun _ => True) (first | trivial | assumption) ((first | (go_at_call 92; refine (HFo.out _ (grown_drew _ none)).mono ?_; rintro e3 w3 ⟨rfl, z3⟩; have Z3 := hide z3; clear z3) | (go_at_call 26; refine (HSu.out _ (by first | exact Z3.out.gr | exact grown_trans Z3.out.gr (grown_drew _ none))).mono ?_; rintro e4 w4 ⟨rfl, hw4⟩)))
        all_goals
          obtain rfl := hw4.symm
          clear HFo HSu hst hd1 hd2
          have Z8 := Z3
          obtain ⟨c0, c1, c2, c3⟩ := box4 Z8.out.hb
          obtain ⟨d0, d1, d2, d3⟩ := box4 Z8.out.box
          have f0 := free_row Z8.out.box 0
          have f1 := free_row Z8.out.box 1
          have f2 := free_row Z8.out.box 2
          have f3 := free_row Z8.out.box 3
          clear Z3
          go_wp2
          obtain ⟨eb, eg⟩ := set4 Z8.out.box (.int .u64 0) (.int .u64 0) (.int .i64 0) (.int .u32 0)
          obtain ⟨e0, e1, e2, e3⟩ := box4 eb
          have EG := hide (grown_then Z8.out.gr eg (fun j e => by cases e; exact Or.inl (Nat.le_refl _)))
          clear c0 c1 c2 c3 d0 d1 d2 d3 f0 f1 f2 f3 eb eg
          generalize (((w3.setCell ⟨w.heap.size, 0, none⟩ (.int .u64 0)).setCell ⟨w.heap.size, 1, none⟩ (.int .u64 0)).setCell ⟨w.heap.size, 2, none⟩ (.int .i64 0)).setCell ⟨w.heap.size, 3, none⟩ (.int .u32 0) = w9 at *
          refine bodyPost_ret (v := .tuple #[.agg #[.int .u64 0, .int .u64 0, .int .i64 0, .int .u32 0], .int .i64 81]) ?_ rfl ?_
          · rw [results_cell_tmp1 rfl]; go_simp
          exact ⟨by rw [HRES.out, if_neg hG]; rfl, EG.out⟩
    · have hne : (sv.toList == [71, 65, 78, 71]) = false := by rw [HSV.out]; exact magic_str (HE.out.2.take 4) (by rw [List.length_take]; have := HE.out.1; omega) h4
      have hG : ¬ HGood E := fun a => h4 (HD.out.2.2.2.2.1.1 a).1
      have Z3 := hide P7.out.2.1
      go_quiet (fail)
      clear hne hst
      have Z8 := hide (Z3.out.grown (grown_drewN w7 nq none))
      generalize w7.drewN nq = w8 at *
      obtain ⟨c0, c1, c2, c3⟩ := box4 Z8.out.hb
      obtain ⟨d0, d1, d2, d3⟩ := box4 Z8.out.box
      have f0 := free_row Z8.out.box 0
      have f1 := free_row Z8.out.box 1
      have f2 := free_row Z8.out.box 2
      have f3 := free_row Z8.out.box 3
      clear Z3
      go_wp2
      obtain ⟨eb, eg⟩ := set4 Z8.out.box (.int .u64 0) (.int .u64 0) (.int .i64 0) (.int .u32 0)
      obtain ⟨e0, e1, e2, e3⟩ := box4 eb
      have EG := hide (grown_then Z8.out.gr eg (fun j e => by cases e; exact Or.inl (Nat.le_refl _)))
      clear c0 c1 c2 c3 d0 d1 d2 d3 f0 f1 f2 f3 eb eg
      generalize (((w8.setCell ⟨w.heap.size, 0, none⟩ (.int .u64 0)).setCell ⟨w.heap.size, 1, none⟩ (.int .u64 0)).setCell ⟨w.heap.size, 2, none⟩ (.int .i64 0)).setCell ⟨w.heap.size, 3, none⟩ (.int .u32 0) = w9 at *
      refine bodyPost_ret (v := .tuple #[.agg #[.int .u64 0, .int .u64 0, .int .i64 0, .int .u32 0], .int .i64 81]) ?_ rfl ?_
      · rw [results_cell_tmp1 rfl]; go_simp
      exact ⟨by rw [HRES.out, if_neg hG]; rfl, EG.out⟩
end Go.Proofs.YtonokaelbpfjnabGreatDoor.Fm
/- Slots in memory; their small calls. -/
namespace Go.Proofs.YtonokaelbpfjnabGreatDoor
open Go.RowKit Ap
attribute [local go_sem ↓] Go.wp_at_zero Go.wp_at_succ
def rp (r : Nat) : Value := .pointer (some ⟨r, 0, none⟩)
/-- Slots lie there, over two regions. -/
structure SlAt (w : World) (s ra rb : Nat) : Prop where
  head : w.heap[s]? = some (.cells [rp ra, rp rb].toArray 80 (0, 0))
theorem SlAt.grown {w w' : World} {s ra rb : Nat} (h : SlAt w s ra rb) (hg : w.grownBy w' none) : SlAt w' s ra rb := ⟨(hg.block _ (row_lt h.head) (by simp)).trans h.head⟩
theorem SlAt.cells {w : World} {s ra rb : Nat} (h : SlAt w s ra rb) : w.cell? ⟨s, 0, none⟩ = some (.pointer (some ⟨ra, 0, none⟩)) ∧ w.cell? ⟨s, 1, none⟩ = some (.pointer (some ⟨rb, 0, none⟩)) := ⟨cell_row h.head 0, cell_row h.head 1⟩
/-- No slots: nil, or such as were not made. -/
def NoSlots (w : World) (p : Option Addr) : Prop := p = none ∨ ∃ s c1, p = some ⟨s, 0, none⟩ ∧ w.heap[s]? = some (.cells [Value.pointer none, c1].toArray 80 (0, 0))
set_option maxHeartbeats 1000000 in
theorem snone_at {w : World} {s ra rb : Nat} (h : SlAt w s ra rb) : Calls Tryz.prog 25 #[.pointer (some ⟨s, 0, none⟩)] w fun e w' => e = .returned (.bool false) ∧ w' = w := by
  obtain ⟨c0, c1⟩ := h.cells
  clear h
  go_enter Tryz.func25, Tryz.ntmps25
  go_wp2
  go_ret
  exact ⟨rfl, rfl⟩
set_option maxHeartbeats 1000000 in
theorem snone_no {w : World} {p : Option Addr} (h : NoSlots w p) : Calls Tryz.prog 25 #[.pointer p] w fun e w' => e = .returned (.bool true) ∧ w' = w := by
  rcases h with rfl | ⟨s, c1, rfl, h⟩
  · go_enter Tryz.func25, Tryz.ntmps25
    go_wp2
    go_ret
    exact ⟨rfl, rfl⟩
  · have c0 : w.cell? ⟨s, 0, none⟩ = some (.pointer none) := cell_row h 0
    clear h
    go_enter Tryz.func25, Tryz.ntmps25
    go_wp2
    go_ret
    exact ⟨rfl, rfl⟩
theorem other_any (x : Int) (w : World) : Calls Tryz.prog 27 #[.int .i64 x] w fun e w' => e = .returned (.int .i64 (if x = 0 then 1 else 0)) ∧ w' = w := by
  by_cases hx : x = 0
  · subst hx
    go_enter Tryz.func27, Tryz.ntmps27
    go_wp2
    go_ret
    exact ⟨rfl, rfl⟩
  · rw [if_neg hx]
    have hd : (x == 0) = false := by simpa using hx
    go_enter Tryz.func27, Tryz.ntmps27
    go_wp2
    go_ret
    exact ⟨rfl, rfl⟩
section
variable {w0 w w' : World} {n size b r F C : Nat} {s : Dv} {k : Dk} {D : List Nat} {W : List Wt}
set_option maxHeartbeats 1000000 in
theorem room_at (h : Dev w0 w n size b s k D W) (hr : RgAt w r b F C) (hC : 1 ≤ C) (hC2 : C ≤ 65536) (hs : size ≤ 4096) : Calls Tryz.prog 29 #[.agg #[rp r]] w fun e w' => e = .returned (.int .i64 (((C - 1) * size : Nat) : Int)) ∧ w.grownBy w' none := by
  have g1 := World.grownBy_alloc w (.cells #[.pointer (some ⟨r, 0, none⟩)] 77) none
  have hb := heap_alloc_new w (.cells [Value.pointer (some ⟨r, 0, none⟩)].toArray 77)
  have c0 : (w.alloc (.cells #[.pointer (some ⟨r, 0, none⟩)] 77)).cell? ⟨w.heap.size, 0, none⟩ = some (.pointer (some ⟨r, 0, none⟩)) := cell_row hb 0
  have H1 := hide (fun q => gBytes_at ((h.then g1).drew q) ((hr.grown g1).drew q) hC2)
  have H2 := hide (fun q => gSize_at ((h.then g1).drew q) ((hr.grown g1).drew q))
  have HG := hide g1
  have e1 : (((C - 1) * size : Nat) : Int) = ((C * size : Nat) : Int) - (size : Int) := by
    obtain ⟨c, rfl⟩ : ∃ c, C = c + 1 := ⟨C - 1, by omega⟩
    rw [Nat.add_mul]
    simp
  rw [e1]
  have hB : C * size ≤ 65536 * 4096 := Nat.mul_le_mul hC2 hs
  have hB0 : size ≤ C * size := Nat.le_mul_of_pos_left _ hC
  clear hb g1 h hr e1
  unfold rp
  generalize C * size = B at *
  have hw : IntKind.i64.wrap ((B : Int) - (size : Int)) = (B : Int) - (size : Int) := by rw [IntKind.wrap_i64]; omega
  go_enter Tryz.func29, Tryz.ntmps29
  go_wp2_with fail
  generalize (w.alloc (.cells #[.pointer (some ⟨r, 0, none⟩)] 77)) = w1 at *
  generalize w.heap.size = X at *
  go_quiet (first | (go_at_call 44; exact Calls.quiet_of (H1.out _)) | (go_at_call 45; exact Calls.quiet_of_same (H2.out _)))
  go_wp2
  go_ret
  exact ⟨rfl, grown_trans HG.out (grown_drewN _ _ none)⟩
set_option maxHeartbeats 1000000 in
theorem sBytes_at {sl rb : Nat} (hl : SlAt w sl r rb) (h : Dev w0 w n size b s k D W) (hr : RgAt w r b F C) (hC : 1 ≤ C) (hC2 : C ≤ 65536) (hs : size ≤ 4096) : Calls Tryz.prog 9 #[.pointer (some ⟨sl, 0, none⟩)] w fun e w' => e = .returned (.int .i64 (((C - 1) * size : Nat) : Int)) ∧ w.grownBy w' none := by
  have H := hide (snone_at hl)
  have H2 := hide (room_at h hr hC hC2 hs)
  obtain ⟨c0, c1⟩ := hl.cells
  clear hl h hr
  unfold rp at H2
  generalize (C - 1) * size = R at *
  go_enter Tryz.func9, Tryz.ntmps9
  go_wp2_with fail
  refine H.out.mono ?_
  rintro e wx ⟨rfl, hwx⟩
  obtain rfl := hwx.symm
  go_wp2_with fail
  refine H2.out.mono ?_
  rintro e w2 ⟨rfl, g2⟩
  go_wp2
  go_ret
  exact ⟨rfl, g2⟩
theorem sBytes_no {p : Option Addr} (h : NoSlots w p) : Calls Tryz.prog 9 #[.pointer p] w fun e w' => e = .returned (.int .i64 0) ∧ w' = w := by
  have H := hide (snone_no h)
  clear h
  go_enter Tryz.func9, Tryz.ntmps9
  go_wp2_with fail
  refine H.out.mono ?_
  rintro e wx ⟨rfl, hwx⟩
  obtain rfl := hwx.symm
  go_wp2
  go_ret
  exact ⟨rfl, rfl⟩
end
end Go.Proofs.YtonokaelbpfjnabGreatDoor
/- New. -/
namespace Go.Proofs.YtonokaelbpfjnabGreatDoor
open Go.RowKit Ap
attribute [local go_sem ↓] Go.wp_at_zero Go.wp_at_succ
section
variable {w0 w w' : World} {n size b ra rb Fa Fb C : Nat} {s : Dv} {k : Dk} {D : List Nat} {W : List Wt}
set_option maxHeartbeats 4000000 in
theorem sNew_at (h : Dev w0 w n size b s k D W) (ha : RgAt w ra b Fa C) (hb : RgAt w rb b Fb C) (hC : 2 ≤ C) (hC2 : C ≤ 65536) (hs0 : 1 ≤ size) (hs : size ≤ 4096) : Calls Tryz.prog 22 #[rp ra, rp rb] w fun e w' => ∃ sl, e = .returned (.tuple #[.pointer (some ⟨sl, 0, none⟩), .int .i64 0]) ∧ w.heap.size ≤ sl ∧ SlAt w' sl ra rb ∧ w.grownBy w' none := by
  have HA := hide (fun q => gBytes_at (h.drew q) (ha.drew q) hC2)
  have HB := hide (fun q => gBytes_at (h.drew q) (hb.drew q) hC2)
  have HSa := hide (fun q => gSize_at (h.drew q) (ha.drew q))
  have HSb := hide (fun q => gSize_at (h.drew q) (hb.drew q))
  have H0 := hide (gBytes_at h ha hC2)
  have hB : C * size ≤ 65536 * 4096 := Nat.mul_le_mul hC2 hs
  have hB0 : 2 * size ≤ C * size := Nat.mul_le_mul_right _ hC
  clear h ha hb
  unfold rp
  generalize C * size = B at *
  have hz : ((B : Int) == 0) = false := by simp; omega
  have hw : IntKind.i64.wrap (2 * (size : Int)) = 2 * (size : Int) := by rw [IntKind.wrap_i64]; omega
  have hlt : decide ((B : Int) < 2 * (size : Int)) = false := decide_eq_false (by omega)
  have hge : 2 * (size : Int) ≤ (B : Int) := by omega
  have hz2 : (B : Int) ≠ 0 := by omega
  go_enter Tryz.func22, Tryz.ntmps22
  go_wp2_with fail
  refine H0.out.mono ?_
  rintro e w1 ⟨rfl, q1, rfl⟩
  go_wp2_with fail
  refine (HB.out _).mono ?_
  rintro e w2 ⟨rfl, q2, rfl⟩
  rw [World.drewN_drewN]
  go_wp2_with fail
  refine (HA.out _).mono ?_
  rintro e w3 ⟨rfl, q3, rfl⟩
  rw [World.drewN_drewN]
  go_wp2_with fail
  refine (HB.out _).mono ?_
  rintro e w4 ⟨rfl, q4, rfl⟩
  rw [World.drewN_drewN]
  go_wp2_with fail
  refine (HSa.out _).mono ?_
  rintro e w5 ⟨rfl, hw5⟩
  obtain rfl := hw5.symm
  go_wp2_with fail
  refine (HSb.out _).mono ?_
  rintro e w6 ⟨rfl, hw6⟩
  obtain rfl := hw6.symm
  go_wp2_with fail
  refine (HA.out _).mono ?_
  rintro e w7 ⟨rfl, q7, rfl⟩
  rw [World.drewN_drewN]
  go_wp2_with fail
  refine (HSa.out _).mono ?_
  rintro e w8 ⟨rfl, hw8⟩
  obtain rfl := hw8.symm
  have G8 := hide (grown_drewN w (q1 + q2 + q3 + q4 + q7) none)
  generalize w.drewN (q1 + q2 + q3 + q4 + q7) = w9 at *
  go_wp2
  have hn := heap_alloc_new w9 (.cells [rp ra, rp rb].toArray 80)
  have gn := World.grownBy_alloc w9 (.cells #[.pointer (some ⟨ra, 0, none⟩), .pointer (some ⟨rb, 0, none⟩)] 80) none
  have HN := hide (And.intro hn gn)
  clear hn gn
  go_ret2
  exact ⟨_, rfl, G8.out.size, ⟨HN.out.1⟩, grown_trans G8.out HN.out.2⟩
set_option maxHeartbeats 4000000 in
/-- The first is none. -/
theorem sNew_no1 {p : Option Addr} (h : NoRegion w p) (v : Value) : Calls Tryz.prog 22 #[.pointer p, v] w fun e w' => e = .returned (.tuple #[.pointer none, .int .i64 1]) ∧ w' = w := by
  have H := hide (gBytes_none h)
  clear h
  go_enter Tryz.func22, Tryz.ntmps22
  go_wp2_with fail
  refine H.out.mono ?_
  rintro e wx ⟨rfl, hwx⟩
  obtain rfl := hwx.symm
  go_wp2
  go_ret2
  exact ⟨rfl, rfl⟩
set_option maxHeartbeats 4000000 in
/-- The second is none. -/
theorem sNew_no2 {p : Option Addr} (hd : Dev w0 w n size b s k D W) (ha : RgAt w ra b Fa C) (hC : 1 ≤ C) (hC2 : C ≤ 65536) (hs0 : 1 ≤ size) (h : ∀ q, NoRegion (w.drewN q) p) : Calls Tryz.prog 22 #[rp ra, .pointer p] w fun e w' => e = .returned (.tuple #[.pointer none, .int .i64 1]) ∧ w.grownBy w' none := by
  have H0 := hide (gBytes_at hd ha hC2)
  have H := hide (fun q => gBytes_none (h q))
  have hB0 : 1 ≤ C * size := Nat.mul_pos hC hs0
  clear h hd ha
  unfold rp
  generalize C * size = B at *
  have hz : ((B : Int) == 0) = false := by simp; omega
  have hz2 : (B : Int) ≠ 0 := by omega
  go_enter Tryz.func22, Tryz.ntmps22
  go_wp2_with fail
  refine H0.out.mono ?_
  rintro e w1 ⟨rfl, q1, rfl⟩
  go_wp2_with fail
  refine (H.out _).mono ?_
  rintro e wx ⟨rfl, hwx⟩
  obtain rfl := hwx.symm
  go_wp2
  go_ret2
  exact ⟨rfl, grown_drewN _ _ none⟩
end
end Go.Proofs.YtonokaelbpfjnabGreatDoor
/- Two claims, sorted. -/
namespace Go.Proofs.YtonokaelbpfjnabGreatDoor
open Go.RowKit Ap
attribute [local go_sem ↓] Go.wp_at_zero Go.wp_at_succ
theorem nan_any (x : Int) (w : World) : Calls Tryz.prog 94 #[.int .u64 x] w fun e w' => e = .returned (.bool false) ∧ w' = w := by
  go_enter Tryz.func94, Tryz.ntmps94
  go_wp2
  go_ret
  exact ⟨rfl, rfl⟩
/-- What Compare answers. -/
def cmpI (x y : Int) : Int := if x < y then -1 else if y < x then 1 else 0
set_option maxHeartbeats 1000000 in
theorem cmp_any (x y : Int) (w : World) : Calls Tryz.prog 54 #[.int .u64 x, .int .u64 y] w fun e w' => e = .returned (.int .i64 (cmpI x y)) ∧ w' = w := by
  have H1 := hide (nan_any x)
  have H2 := hide (nan_any y)
  obtain ⟨r, hr⟩ : ∃ r, r = cmpI x y := ⟨_, rfl⟩
  rw [← hr]
  have HR := hide hr
  clear hr
  by_cases h1 : x < y
  · go_enter Tryz.func54, Tryz.ntmps54
    go_wp2_with fail
    refine (H1.out _).mono ?_
    rintro e wx ⟨rfl, hwx⟩
    obtain rfl := hwx.symm
    go_wp2_with fail
    refine (H2.out _).mono ?_
    rintro e wx ⟨rfl, hwx⟩
    obtain rfl := hwx.symm
    go_wp2
    go_ret
    exact ⟨by rw [HR.out]; unfold cmpI; rw [if_pos (by omega)]; rfl, rfl⟩
  · by_cases h2 : y < x
    · go_enter Tryz.func54, Tryz.ntmps54
      go_wp2_with fail
      refine (H1.out _).mono ?_
      rintro e wx ⟨rfl, hwx⟩
      obtain rfl := hwx.symm
      go_wp2_with fail
      refine (H2.out _).mono ?_
      rintro e wx ⟨rfl, hwx⟩
      obtain rfl := hwx.symm
      go_wp2
      go_ret
      exact ⟨by rw [HR.out]; unfold cmpI; rw [if_neg (by omega), if_pos (by omega)]; rfl, rfl⟩
    · go_enter Tryz.func54, Tryz.ntmps54
      go_wp2_with fail
      refine (H1.out _).mono ?_
      rintro e wx ⟨rfl, hwx⟩
      obtain rfl := hwx.symm
      go_wp2_with fail
      refine (H2.out _).mono ?_
      rintro e wx ⟨rfl, hwx⟩
      obtain rfl := hwx.symm
      go_wp2
      go_ret
      exact ⟨by rw [HR.out]; unfold cmpI; rw [if_neg (by omega), if_neg (by omega)]; rfl, rfl⟩
/-- A claim: a header, and the place of its slot. -/
def clV (h : Fm.Hd) (a : Int) : Value := .agg #[.int .u64 h.g, .int .u64 h.c, .int .i64 h.n, .int .u32 h.s, .int .i64 a]
def clC (h : Fm.Hd) (a : Int) : List Value := [.int .u64 h.g, .int .u64 h.c, .int .i64 h.n, .int .u32 h.s, .int .i64 a]
set_option maxRecDepth 20000 in
set_option maxHeartbeats 2000000 in
theorem less_any (x y : Fm.Hd) (a b : Int) (w : World) : Calls Tryz.prog 53 #[clV x a, clV y b] w fun e w' => e = .returned (.int .i64 (cmpI y.g x.g)) ∧ w.grownBy w' none := by
  unfold clV
  have g1 := World.grownBy_alloc w (.cells #[.int .u64 x.g, .int .u64 x.c, .int .i64 x.n, .int .u32 x.s, .int .i64 a] 87) none
  have g2 := World.grownBy_alloc (w.alloc (.cells #[.int .u64 x.g, .int .u64 x.c, .int .i64 x.n, .int .u32 x.s, .int .i64 a] 87)) (.cells #[.int .u64 y.g, .int .u64 y.c, .int .i64 y.n, .int .u32 y.s, .int .i64 b] 87) none
  have hb1 : (w.alloc (.cells #[.int .u64 x.g, .int .u64 x.c, .int .i64 x.n, .int .u32 x.s, .int .i64 a] 87)).heap[w.heap.size]? = some (.cells (clC x a).toArray 87 (0, 0)) := heap_alloc_new w _
  generalize hw1 : (w.alloc (.cells #[.int .u64 x.g, .int .u64 x.c, .int .i64 x.n, .int .u32 x.s, .int .i64 a] 87)) = w1 at *
  have hz1 : w1.heap.size = w.heap.size + 1 := by rw [← hw1, World.size_alloc]
  have hb2 : (w1.alloc (.cells #[.int .u64 y.g, .int .u64 y.c, .int .i64 y.n, .int .u32 y.s, .int .i64 b] 87)).heap[w1.heap.size]? = some (.cells (clC y b).toArray 87 (0, 0)) := heap_alloc_new w1 _
  have hb1' := (g2.block _ (row_lt hb1) (by simp)).trans hb1
  rw [hz1] at hb2
  generalize hw2 : (w1.alloc (.cells #[.int .u64 y.g, .int .u64 y.c, .int .i64 y.n, .int .u32 y.s, .int .i64 b] 87)) = w2 at *
  have c0 : w2.cell? ⟨w.heap.size, 0, none⟩ = some (.int .u64 x.g) := cell_row hb1' 0
  have c1 : w2.cell? ⟨w.heap.size + 1, 0, none⟩ = some (.int .u64 y.g) := cell_row hb2 0
  rw [← hw2, ← hw1] at c0 c1 g2
  rw [← hw1] at g1
  clear hw2 hw1 hb1 hb2 hz1
  have HG := hide (grown_trans g1 g2)
  clear g1 g2 hb1'
  go_enter Tryz.func53, Tryz.ntmps53
  go_wp2_with fail
  refine (cmp_any _ _ _).mono ?_
  rintro e wx ⟨rfl, hwx⟩
  obtain rfl := hwx.symm
  go_wp2
  go_ret
  exact ⟨rfl, HG.out⟩
end Go.Proofs.YtonokaelbpfjnabGreatDoor
