/- What the rows' listed variables give; a world for the witnesses; arguments opened: cabins, pairs: shared by the rows' proofs. -/
import Derived.Test.YtomoclicbjkpoabDoorCh
import Derived.Test.YtomoclicbjkpoabDoorCards
import Derived.Test.YtomoclicbjkpoabDoorTie
import Derived.ProofKit
import Derived.OpenShut
import Derived.Deep.DeepHandedRow
import Derived.Lib.LaidTab
import Derived.ChangeOld
import Derived.SizedLaws
import Derived.Stop.LaidErr
import Derived.LaidLaws
import Derived.MakeChecks
import Derived.ChangeMaps5
namespace Go.Proofs.YtomoclicbjkpoabDoor
open Go.ChangeShapes Go.WideShapes Go.ChangeAt Go.RowKit Go.Deep

theorem seat_own : ownKnob Tryd.prog.godebug = none := by kernel_rfl
theorem seat_laid : laidOutB Tryd.prog = true := by kernel_rfl
theorem cells24 : Tryd.prog.cellsOf 25 = 3 := by kernel_rfl
theorem cells3 : Tryd.prog.cellsOf 3 = 1 := by kernel_rfl
theorem cells22 : Tryd.prog.cellsOf 23 = 1 := by kernel_rfl
theorem bytes3 : Tryd.prog.bytesOf 3 = 8 := by kernel_rfl
theorem gES : Tryd.prog.globalNamed "strconv.ErrSyntax" = some 1 := by kernel_rfl
theorem gER : Tryd.prog.globalNamed "strconv.ErrRange" = some 2 := by kernel_rfl
theorem gEST : (Tryd.prog.globals[1]?).map (·.type) = some 101 := by kernel_rfl
theorem gERT : (Tryd.prog.globals[2]?).map (·.type) = some 101 := by kernel_rfl
theorem cells113 : Tryd.prog.cellsOf 206 = 1 := by kernel_rfl
theorem cells9 : Tryd.prog.cellsOf 9 = 1 := by kernel_rfl
theorem star : "*" ++ "errors.errorString" = "*errors.errorString" := by decide
theorem row111 (u : TypeId) (h : Tryd.prog.typeName? 3 u = some "*errors.errorString") : u = 204 :=
  typeName_ptr_named (nm := "errors.errorString") (by rw [star]; kernel_rfl) (by kernel_rfl) (by decide) u (by rw [star]; exact h)
/-- The rows' list. -/
abbrev laidL : List (String × DataW Unit) := [("math/bits.deBruijn32tab", Rows.laid_math_bits_deBruijn32tab), ("math/bits.deBruijn64tab", Rows.laid_math_bits_deBruijn64tab), ("internal/strconv.uint64pow10", Rows.laid_internal_strconv_uint64pow10), ("strconv.ErrRange", Rows.laid_strconv_ErrRange), ("strconv.ErrSyntax", Rows.laid_strconv_ErrSyntax)]
theorem er_laid {W : World} (h0 : laidMetH Tryd.prog laidL W) : Er W := by
  rw [MakeChecks.laidMetH_plain _ _ _ (by kernel_rfl)] at h0
  have h1 := h0.tail.tail.tail
  have h2 := h1.tail
  obtain ⟨a1, s1, hv1, -, -, -⟩ := laid_sentinel h1 gER gERT Tryd.underlying101 row111 Tryd.underlying204 Tryd.underlying206 rfl rfl Tryd.underlying9 cells113 cells9
  obtain ⟨a2, s2, hv2, -, -, -⟩ := laid_sentinel h2 gES gEST Tryd.underlying101 row111 Tryd.underlying204 Tryd.underlying206 rfl rfl Tryd.underlying9 cells113 cells9
  exact ⟨⟨_, _, by have h3 := World.var?_cell gES hv2 0; simpa using h3⟩, _, _, by have h3 := World.var?_cell gER hv1 0; simpa using h3⟩

/-- So many blocks has the settled world. -/
noncomputable def low : Nat := (World.holding Tryd.prog default ⟨#[], #[], []⟩).heap.size
/-- A world for the witness: the tables and the two errors as their initialisers lay them. -/
noncomputable def laidWorld (os : Os) : World :=
  let w0 := World.holding Tryd.prog os ⟨#[.cells #[.string ⟨#[105, 110, 118, 97, 108, 105, 100, 32, 115, 121, 110, 116, 97, 120]⟩] 206, .cells #[.string ⟨#[118, 97, 108, 117, 101, 32, 111, 117, 116, 32, 111, 102, 32, 114, 97, 110, 103, 101]⟩] 206], #[], []⟩
  let m := fun (h : Array Obj) (g : Nat) (cs : Array Value) => h.modify g fun
      | .cells _ t frozen => .cells cs t frozen
      | o => o
  { w0 with heap := m (m (m (m (m w0.heap 0 (([1, 10, 100, 1000, 10000, 100000, 1000000, 10000000, 100000000, 1000000000, 10000000000, 100000000000, 1000000000000, 10000000000000, 100000000000000, 1000000000000000, 10000000000000000, 100000000000000000, 1000000000000000000, 10000000000000000000] : List Int).map (Value.int .u64)).toArray) 1 #[.iface 204 (.pointer (some ⟨low, 0, none⟩))]) 2 #[.iface 204 (.pointer (some ⟨low + 1, 0, none⟩))]) 4 (([0, 1, 28, 2, 29, 14, 24, 3, 30, 22, 20, 15, 25, 17, 4, 8, 31, 27, 13, 23, 21, 19, 16, 7, 26, 12, 18, 6, 11, 5, 10, 9] : List Int).map (Value.int .u8)).toArray) 5 (([0, 1, 56, 2, 57, 49, 28, 3, 61, 58, 42, 50, 38, 29, 17, 4, 62, 47, 59, 36, 45, 43, 51, 22, 53, 39, 33, 30, 24, 18, 12, 5, 63, 55, 48, 27, 60, 41, 37, 16, 46, 35, 44, 21, 52, 32, 23, 11, 54, 26, 40, 15, 34, 20, 31, 10, 25, 14, 19, 9, 13, 8, 7, 6] : List Int).map (Value.int .u8)).toArray }

theorem list3 {α : Type} {l : List α} (h : l.length = 3) : ∃ a b c, l = [a, b, c] := by
  match l, h with
  | [a, b, c], _ => exact ⟨a, b, c, rfl⟩
theorem list5 {α : Type} {l : List α} (h : l.length = 5) : ∃ a b c d e, l = [a, b, c, d, e] := by
  match l, h with
  | [a, b, c, d, e], _ => exact ⟨a, b, c, d, e, rfl⟩

variable {H : Type} {enc : TypeId × Value → H}
theorem open_rowI {w : World} {base fuel : Nat} {spare : Nat → Bool} {held : Bool} {cs : List Value} {x : DataW H × List MemPlace} (h : DataW.trod enc Tryd.prog w base spare held fuel 23 cs = some x) (hw : ∀ n ∈ x.1.weights Tryd.prog 23, n ≤ reachBytes) :
    ∃ ao n cap xs, cs = [.slice ao n cap] ∧ CbIn w ao n cap xs := by
  rcases open_ints Tryd.underlying23 Tryd.underlying3 cells3 h with ⟨rfl, _⟩ | ⟨a, len, cap, zs, rfl, _, hl, hm, hz, rfl, hcell, hwf⟩
  · exact ⟨none, 0, 0, [], rfl, ⟨At.nil _ _, rfl, fun _ => ⟨rfl, rfl⟩, by omega, by unfold maxLen; omega, by omega⟩⟩
  · have h1 := hw (((lits .i64 (zs.take len) : List (DataW H)).length + (lits .i64 (zs.drop len) : List (DataW H)).length) * 8) (by
      simp [DataW.weights, Tryd.underlying23, bytes3])
    simp only [lits, List.length_map, List.length_take, List.length_drop, reachBytes] at h1
    have hzl : len ≤ zs.length := by rw [hz]; split <;> omega
    refine ⟨some a, len, cap, zs.take len, rfl, ⟨?_, by simp; omega, (fun e => by cases e), hl, hm, by omega⟩⟩
    intro j u hu
    rw [List.getElem?_take] at hu
    split at hu
    · obtain ⟨hj, he⟩ := List.getElem?_eq_some_iff.1 hu
      exact ⟨a, rfl, by rw [hcell j hj]; simp [hj, he]⟩
    · cases hu
set_option maxRecDepth 100000 in
/-- An argument that is a cabin. -/
theorem open_cabinArg {w : World} {base : Nat} {spare : Nat → Bool} {held : Bool} {r : Reach} {b0 : Nat} {v : Value} {d : DataW H} {ps : List MemPlace} (hval : Value.okWide Tryd.prog w r b0 25 v) (hd : DataW.Trod enc Tryd.prog w base spare held 25 v d ps) (hz : ∀ n ∈ d.weights Tryd.prog 25, n ≤ reachBytes) :
    ∃ (R W : Int) (ao : Option Addr) (n cap : Nat) (L : List Int), v = cbV R W (.slice ao n cap) ∧ CbIn w ao n cap L ∧ (-9223372036854775808 ≤ R ∧ R ≤ 9223372036854775807) ∧ (-9223372036854775808 ≤ W ∧ W ≤ 9223372036854775807) := by
  obtain ⟨cs, rfl, _⟩ := okWide_struct Tryd.underlying25 hval
  obtain ⟨fuel, h⟩ := hd
  have h : DataW.trod enc Tryd.prog w base spare held fuel 25 cs.toList = some (d, ps) := h
  obtain ⟨xs, n, _, hx, hl, hsz, hf⟩ := DataW.trod_struct Tryd.underlying25 h
  rw [cells24] at hl
  obtain ⟨v0, v1, v2, hc⟩ := list3 hl
  obtain ⟨y0, y1, y2, rfl⟩ := list3 (show xs.length = 3 from hsz)
  rw [hc] at hf
  have f0 : DataW.trod enc Tryd.prog w base spare held n 3 [v0] = some y0 := by simpa [cells3] using hf 0 _ rfl
  have f1 : DataW.trod enc Tryd.prog w base spare held n 3 [v1] = some y1 := by simpa [cells3] using hf 1 _ rfl
  have f2 : DataW.trod enc Tryd.prog w base spare held n 23 [v2] = some y2 := by simpa [cells22, cells3] using hf 2 _ rfl
  obtain ⟨e, e0, rfl, we⟩ := DataW.trod_int Tryd.underlying3 f0
  obtain ⟨s, e1, rfl, ws⟩ := DataW.trod_int Tryd.underlying3 f1
  have hd : d = .agg [.lit (.int .i64 e), .lit (.int .i64 s), y2.1] := by
    have := congrArg Prod.fst hx
    simpa using this
  obtain ⟨ao, m, cap, b, e2, hB⟩ := open_rowI f2 (fun k hk => hz k (by
    rw [hd]
    simp only [DataW.weights, Tryd.underlying25]
    simp [DataW.weightsEach, DataW.weights, hk]))
  simp only [List.cons.injEq, and_true] at e0 e1 e2
  have be := bounds_i64 we
  have bs := bounds_i64 ws
  refine ⟨e, s, ao, m, cap, b, ?_, hB, ⟨by omega, by omega⟩, ⟨by omega, by omega⟩⟩
  rw [e0, e1, e2] at hc
  unfold cbV
  congr 1
  cases cs
  simpa using hc
end Go.Proofs.YtomoclicbjkpoabDoor
