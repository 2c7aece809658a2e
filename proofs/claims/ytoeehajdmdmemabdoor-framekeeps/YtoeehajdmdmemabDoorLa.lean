/- What the rows' listed table gives; a world for the witnesses; arguments opened: bytes, frames: shared by the rows' proofs. -/
import Derived.Test.YtoeehajdmdmemabDoorFa
import Derived.Test.YtoeehajdmdmemabDoorCards
import Derived.Test.YtoeehajdmdmemabDoorTie
import Derived.ProofKit
import Derived.OpenShut
import Derived.Deep.DeepHandedRow
import Derived.Lib.LaidTab
import Derived.ChangeOld
import Derived.SizedLaws
namespace Go.Proofs.YtoeehajdmdmemabDoor
open Go.ChangeShapes Go.WideShapes Go.ChangeAt Go.RowKit Go.Deep

theorem seat_own : ownKnob Tryd.prog.godebug = none := by kernel_rfl
theorem seat_laid : laidOutB Tryd.prog = true := by kernel_rfl
theorem gTab : Tryd.prog.globalNamed "gangway/crc.four" = some 0 := by kernel_rfl
theorem gTabType : (Tryd.prog.globals[0]?).map (·.type) = some 187 := by kernel_rfl
theorem cells97 : Tryd.prog.cellsOf 187 = 16 := by kernel_rfl
theorem cells70 : Tryd.prog.cellsOf 76 = 1 := by kernel_rfl
theorem cells5 : Tryd.prog.cellsOf 5 = 1 := by kernel_rfl
theorem cellsU : Tryd.prog.cellsOf 23 = 1 := by kernel_rfl
theorem cells23 : Tryd.prog.cellsOf 22 = 1 := by kernel_rfl
theorem cells25 : Tryd.prog.cellsOf 34 = 3 := by kernel_rfl
theorem bytes5 : Tryd.prog.bytesOf 5 = 1 := by kernel_rfl
def tabL : List Int := [0, 498536548, 997073096, 651767980, 1994146192, 1802195444, 1303535960, 1342533948, 3988292384, 4027552580, 3604390888, 3412177804, 2607071920, 2262029012, 2685067896, 3183342108]
theorem tabL_at : ∀ j, j < 16 → tabL.getD j 0 = ((Cr.Poly.steps 4 j : Nat) : Int) := by decide
set_option maxRecDepth 100000 in
theorem table {W : World} (h : laidMetH Tryd.prog [("gangway/crc.four", Rows.laid_gangway_crc_four)] W) : Tab W := by
  have ht : Lib.TabIs Tryd.prog W "gangway/crc.four" .u32 tabL := Lib.tabIs_of_head (rest := []) gTab gTabType Tryd.underlying187 Tryd.underlying76 cells70 cells97 h
  intro j hj
  rw [← tabL_at j hj]
  exact ht.cell gTab j hj
theorem grown_below {a b : World} (h : a.grownBy b none) : Below a.heap.size a b := ⟨h.os, h.tape, h.output, h.size, fun k hk => h.block k hk (fun e => by cases e)⟩

/-- A world for the witness: the table (block 0) holding what its initialiser lays. -/
noncomputable def laidWorld (os : Os) : World :=
  { World.holding Tryd.prog os ⟨#[], #[], []⟩ with heap := (World.holding Tryd.prog os ⟨#[], #[], []⟩).heap.modify 0 fun
      | .cells _ t frozen => .cells (tabL.map (Value.int .u32)).toArray t frozen
      | o => o }

theorem list2 {α : Type} {l : List α} (h : l.length = 2) : ∃ a b, l = [a, b] := by
  match l, h with
  | [a, b], _ => exact ⟨a, b, rfl⟩
theorem list3 {α : Type} {l : List α} (h : l.length = 3) : ∃ a b c, l = [a, b, c] := by
  match l, h with
  | [a, b, c], _ => exact ⟨a, b, c, rfl⟩

variable {H : Type} {enc : TypeId × Value → H}
theorem bulk_one (d : DataW H) : 1 ≤ Rows.uptoBulk d := by
  cases d with
  | lit l => cases l <;> simp [Rows.uptoBulk]
  | _ => simp [Rows.uptoBulk]
theorem bulk_length (l : List (DataW H)) : l.length ≤ Rows.uptoBulkAll l := by
  induction l with
  | nil => simp [Rows.uptoBulkAll]
  | cons x r ih => have := bulk_one x; simp only [Rows.uptoBulkAll, List.length_cons]; omega

/-- Bytes that came in. -/
structure BIn (w : World) (ao : Option Addr) (n cap : Nat) (xs : List Int) : Prop where
  at_ : At w ao xs
  len : xs.length = n
  byt : Byt xs
  sm : n ≤ 140737488351232
  nil : ao = none → n = 0 ∧ cap = 0
  fits : n ≤ cap
  most : cap ≤ maxLen
theorem BIn.src {w : World} {ao : Option Addr} {n cap : Nat} {xs : List Int} (h : BIn w ao n cap xs) (hT : Tab w) : Src w ao n cap xs := ⟨h.at_, h.len, h.nil, h.fits, h.byt, by have := h.sm; omega, hT⟩
theorem open_bytes {w : World} {base fuel : Nat} {spare : Nat → Bool} {held : Bool} {cs : List Value} {x : DataW H × List MemPlace} (h : DataW.trod enc Tryd.prog w base spare held fuel 22 cs = some x) (hw : ∀ n ∈ x.1.weights Tryd.prog 22, n ≤ reachBytes) :
    ∃ ao n cap xs, cs = [.slice ao n cap] ∧ BIn w ao n cap xs ∧ n ≤ Rows.uptoBulk x.1 := by
  rcases open_ints Tryd.underlying22 Tryd.underlying5 cells5 h with ⟨rfl, _⟩ | ⟨a, len, cap, zs, rfl, _, hl, hm, hz, rfl, hcell, hwf⟩
  · exact ⟨none, 0, 0, [], rfl, ⟨At.nil _ _, rfl, (fun x hx => by cases hx), by omega, fun _ => ⟨rfl, rfl⟩, by omega, by unfold maxLen; omega⟩, by omega⟩
  · have h1 := hw ((lits .u8 (zs.take len) : List (DataW H)).length * 1 + (lits .u8 (zs.drop len) : List (DataW H)).length * 1) (by
      simp [DataW.weights, Tryd.underlying22, bytes5])
    simp only [lits, List.length_map, List.length_take, List.length_drop, reachBytes] at h1
    have hzl : len ≤ zs.length := by rw [hz]; split <;> omega
    refine ⟨some a, len, cap, zs.take len, rfl, ⟨?_, by simp; omega, ?_, by omega, (fun e => by cases e), hl, hm⟩, ?_⟩
    · intro j u hu
      rw [List.getElem?_take] at hu
      split at hu
      · obtain ⟨hj, he⟩ := List.getElem?_eq_some_iff.1 hu
        exact ⟨a, rfl, by rw [hcell j hj]; simp [hj, he]⟩
      · cases hu
    · intro y hy
      have := bounds_u8 (hwf y (List.mem_of_mem_take hy))
      omega
    · have h2 := bulk_length (H := H) (lits .u8 (zs.take len))
      simp only [Rows.uptoBulk]
      simp only [lits, List.length_map, List.length_take] at h2 ⊢
      omega
set_option maxRecDepth 100000 in
/-- An argument that is a slice of bytes. -/
theorem open_bytesArg {w : World} {base : Nat} {spare : Nat → Bool} {held : Bool} {r : Reach} {b0 : Nat} {v : Value} {d : DataW H} {ps : List MemPlace} (hval : Value.okWide Tryd.prog w r b0 22 v) (hd : DataW.Trod enc Tryd.prog w base spare held 22 v d ps) (hz : ∀ n ∈ d.weights Tryd.prog 22, n ≤ reachBytes) :
    ∃ ao n cap xs, v = .slice ao n cap ∧ BIn w ao n cap xs ∧ n ≤ Rows.uptoBulk d := by
  obtain ⟨ao, n, cap, rfl⟩ := okWide_slice Tryd.underlying22 hval
  obtain ⟨fuel, h⟩ := hd
  have h : DataW.trod enc Tryd.prog w base spare held fuel 22 [.slice ao n cap] = some (d, ps) := h
  obtain ⟨ao', n', cap', xs, e, hB, hu⟩ := open_bytes h hz
  simp only [List.cons.injEq, and_true, Value.slice.injEq] at e
  obtain ⟨rfl, rfl, rfl⟩ := e
  exact ⟨_, _, _, xs, rfl, hB, hu⟩
set_option maxRecDepth 100000 in
/-- An argument that is a frame. -/
theorem open_frameArg {w : World} {base : Nat} {spare : Nat → Bool} {held : Bool} {r : Reach} {b0 : Nat} {v : Value} {d : DataW H} {ps : List MemPlace} (hval : Value.okWide Tryd.prog w r b0 34 v) (hd : DataW.Trod enc Tryd.prog w base spare held 34 v d ps) (hz : ∀ n ∈ d.weights Tryd.prog 34, n ≤ reachBytes) :
    ∃ (f : Fr) (ao : Option Addr) (n cap : Nat), v = frV f.e f.s (.slice ao n cap) ∧ f.Ok ∧ BIn w ao n cap f.b := by
  obtain ⟨cs, rfl, _⟩ := okWide_struct Tryd.underlying34 hval
  obtain ⟨fuel, h⟩ := hd
  have h : DataW.trod enc Tryd.prog w base spare held fuel 34 cs.toList = some (d, ps) := h
  obtain ⟨xs, n, _, hx, hl, hsz, hf⟩ := DataW.trod_struct Tryd.underlying34 h
  rw [cells25] at hl
  obtain ⟨v0, v1, v2, hc⟩ := list3 hl
  obtain ⟨y0, y1, y2, rfl⟩ := list3 (show xs.length = 3 from hsz)
  rw [hc] at hf
  have f0 : DataW.trod enc Tryd.prog w base spare held n 23 [v0] = some y0 := by simpa [cellsU] using hf 0 _ rfl
  have f1 : DataW.trod enc Tryd.prog w base spare held n 23 [v1] = some y1 := by simpa [cellsU] using hf 1 _ rfl
  have f2 : DataW.trod enc Tryd.prog w base spare held n 22 [v2] = some y2 := by simpa [cells23, cellsU] using hf 2 _ rfl
  obtain ⟨e, e0, rfl, we⟩ := DataW.trod_int Tryd.underlying23 f0
  obtain ⟨s, e1, rfl, ws⟩ := DataW.trod_int Tryd.underlying23 f1
  have hd : d = .agg [.lit (.int .u64 e), .lit (.int .u64 s), y2.1] := by
    have := congrArg Prod.fst hx
    simpa using this
  obtain ⟨ao, m, cap, b, e2, hB, _⟩ := open_bytes f2 (fun k hk => hz k (by
    rw [hd]
    simp only [DataW.weights, Tryd.underlying34]
    simp [DataW.weightsEach, DataW.weights, hk]))
  simp only [List.cons.injEq, and_true] at e0 e1 e2
  have be := bounds_u64 we
  have bs := bounds_u64 ws
  refine ⟨⟨e, s, b⟩, ao, m, cap, ?_, ⟨be.1, by simp only; omega, bs.1, by simp only; omega, hB.byt⟩, hB⟩
  rw [e0, e1, e2] at hc
  unfold frV
  congr 1
  cases cs
  simpa using hc
end Go.Proofs.YtoeehajdmdmemabDoor
