/- What the rows' listed table gives; a world for the witnesses; arguments that are rows of bytes, records: shared by the rows' proofs. -/
import Derived.Test.YtoflohjlmagjpaaDoorYa
import Derived.Test.YtoflohjlmagjpaaDoorCards
import Derived.Test.YtoflohjlmagjpaaDoorTie
import Derived.ProofKit
import Derived.OpenShut
import Derived.Deep.DeepHandedRow
import Derived.Lib.LaidTab
import Derived.ChangeOld
import Derived.SizedLaws
namespace Go.Proofs.YtoflohjlmagjpaaDoor
open Go.ChangeShapes Go.WideShapes Go.ChangeAt Go.RowKit Go.Deep

theorem seat_own : ownKnob Tryd.prog.godebug = none := by kernel_rfl
theorem seat_laid : laidOutB Tryd.prog = true := by kernel_rfl
theorem gTab : Tryd.prog.globalNamed "gangway/replies.fieldsOf" = some 0 := by kernel_rfl
theorem gTabType : (Tryd.prog.globals[0]?).map (·.type) = some 126 := by kernel_rfl
theorem cells126 : Tryd.prog.cellsOf 126 = 11 := by kernel_rfl
theorem cells89 : Tryd.prog.cellsOf 89 = 1 := by kernel_rfl
theorem cellsOf5 : Tryd.prog.cellsOf 5 = 1 := by kernel_rfl
theorem bytes5 : Tryd.prog.bytesOf 5 = 1 := by kernel_rfl
theorem cellsOf26 : Tryd.prog.cellsOf 26 = 7 := by kernel_rfl
theorem cellsOf22 : Tryd.prog.cellsOf 22 = 1 := by kernel_rfl
theorem cellsOf23 : Tryd.prog.cellsOf 23 = 1 := by kernel_rfl
theorem cellsOf24 : Tryd.prog.cellsOf 24 = 1 := by kernel_rfl
theorem cellsOf3 : Tryd.prog.cellsOf 3 = 1 := by kernel_rfl
theorem cellsOf2 : Tryd.prog.cellsOf 2 = 1 := by kernel_rfl
theorem listOf7 {α : Type} {l : List α} (h : l.length = 7) : ∃ a b c d e f g, l = [a, b, c, d, e, f, g] := by
  match l, h with
  | [a, b, c, d, e, f, g], _ => exact ⟨a, b, c, d, e, f, g, rfl⟩
variable {H : Type} {enc : TypeId × Value → H}
theorem table {W : World} (h : laidMetH Tryd.prog [("gangway/replies.fieldsOf", Rows.laid_gangway_replies_fieldsOf)] W) : Tab W := by
  have ht : Lib.TabIs Tryd.prog W "gangway/replies.fieldsOf" .u8 tabN := Lib.tabIs_of_head (rest := []) gTab gTabType Tryd.underlying126 Tryd.underlying89 cells89 cells126 h
  intro j hj
  exact ht.cell gTab j hj
theorem grown_below {a b : World} (h : a.grownBy b none) : Below a.heap.size a b := ⟨h.os, h.tape, h.output, h.size, fun k hk => h.block k hk (fun e => by cases e)⟩
/-- A world for the witness: the table (block 0) holding what its initialiser lays. -/
noncomputable def laidWorld (os : Os) : World :=
  { World.holding Tryd.prog os ⟨#[], #[], []⟩ with heap := (World.holding Tryd.prog os ⟨#[], #[], []⟩).heap.modify 0 fun
      | .cells _ t frozen => .cells (tabN.map (Value.int .u8)).toArray t frozen
      | o => o }
set_option maxRecDepth 20000 in
/-- An argument that is a slice of bytes. -/
theorem open_bytesArg {w : World} {base : Nat} {spare : Nat → Bool} {held : Bool} {r : Reach} {b0 : Nat} {v : Value} {d : DataW H} {ps : List MemPlace} (hval : Value.okWide Tryd.prog w r b0 27 v) (hd : DataW.Trod enc Tryd.prog w base spare held 27 v d ps) (hz : ∀ n ∈ d.weights Tryd.prog 27, n ≤ reachBytes) :
    ∃ (ao : Option Addr) (n cap : Nat) (xs : List Int), v = .slice ao n cap ∧ xs.length = n ∧ At w ao xs ∧ Byt xs ∧ n ≤ 140737488351232 ∧ (ao = none → n = 0 ∧ cap = 0) ∧ n ≤ cap ∧ cap ≤ maxLen ∧ n ≤ Rows.uptoBulk d := by
  obtain ⟨ao, len0, cap0, rfl⟩ := okWide_slice Tryd.underlying27 hval
  obtain ⟨fuel, hf⟩ := hd
  refine ⟨ao, len0, cap0, ?_⟩
  rcases open_ints Tryd.underlying27 Tryd.underlying5 cellsOf5 hf with ⟨hcs, _⟩ | ⟨a, len, cap, zs, hcs, _, hl, hm, hzz, hx, hcell, hwf⟩
  · simp [Value.cells] at hcs
    obtain ⟨rfl, rfl, rfl⟩ := hcs
    exact ⟨[], rfl, rfl, At.nil _ _, (fun x hx => by cases hx), by omega, fun _ => ⟨rfl, rfl⟩, by omega, by unfold maxLen; omega, by omega⟩
  · simp [Value.cells] at hcs
    obtain ⟨rfl, rfl, rfl⟩ := hcs
    have hd : d = .slice (lits .u8 (zs.take len0)) (lits .u8 (zs.drop len0)) := congrArg Prod.fst hx
    have h1 := hz ((lits .u8 (zs.take len0) : List (DataW H)).length * 1 + (lits .u8 (zs.drop len0) : List (DataW H)).length * 1) (by
      rw [hd]; simp [DataW.weights, Tryd.underlying27, bytes5])
    simp only [lits, List.length_map, List.length_take, List.length_drop, reachBytes] at h1
    have hzl : len0 ≤ zs.length := by rw [hzz]; split <;> omega
    refine ⟨zs.take len0, rfl, by simp; omega, ?_, ?_, by omega, (fun e => by cases e), hl, hm, ?_⟩
    · intro j u hu
      rw [List.getElem?_take] at hu
      split at hu
      · rename_i hj
        have hj2 : j < zs.length := by omega
        rw [List.getElem?_eq_getElem hj2] at hu
        have hc := hcell j hj2
        refine ⟨a, rfl, ?_⟩
        rw [hc]
        simp [List.getD_eq_getElem?_getD, hj2] at hu ⊢
        omega
      · cases hu
    · intro x hx
      have := bounds_u8 (hwf x (List.mem_of_mem_take hx))
      omega
    · have hb : ∀ l : List Int, Rows.uptoBulkAll (lits .u8 l : List (DataW H)) = l.length := by
        intro l
        induction l with
        | nil => rfl
        | cons y l ih =>
          show Rows.uptoBulk (.lit (.int .u8 y)) + Rows.uptoBulkAll (lits .u8 l) = _
          rw [ih]
          simp [Rows.uptoBulk]
          omega
      rw [hd]
      simp only [Rows.uptoBulk, hb, List.length_take]
      omega
set_option maxRecDepth 20000 in
/-- An argument that is a reply. -/
theorem open_replyArg {w : World} {base : Nat} {spare : Nat → Bool} {held : Bool} {r : Reach} {b0 : Nat} {v : Value} {d : DataW H} {ps : List MemPlace} (hval : Value.okWide Tryd.prog w r b0 26 v) (hd : DataW.Trod enc Tryd.prog w base spare held 26 v d ps) :
    ∃ q : Ry, v = ryV q ∧ q.Ok := by
  obtain ⟨cs, rfl, _⟩ := okWide_struct Tryd.underlying26 hval
  obtain ⟨fuel, h⟩ := hd
  have h : DataW.trod enc Tryd.prog w base spare held fuel 26 cs.toList = some (d, ps) := h
  obtain ⟨xs, n, _, hx, hl, hsz, hf⟩ := DataW.trod_struct Tryd.underlying26 h
  rw [cellsOf26] at hl
  obtain ⟨v0, v1, v2, v3, v4, v5, v6, hc⟩ := listOf7 hl
  obtain ⟨y0, y1, y2, y3, y4, y5, y6, rfl⟩ := listOf7 (show xs.length = 7 from hsz)
  rw [hc] at hf
  have f0 : DataW.trod enc Tryd.prog w base spare held n 22 [v0] = some y0 := by simpa [cellsOf22] using hf 0 _ rfl
  have f1 : DataW.trod enc Tryd.prog w base spare held n 23 [v1] = some y1 := by simpa [cellsOf23] using hf 1 _ rfl
  have f2 : DataW.trod enc Tryd.prog w base spare held n 24 [v2] = some y2 := by simpa [cellsOf24] using hf 2 _ rfl
  have f3 : DataW.trod enc Tryd.prog w base spare held n 22 [v3] = some y3 := by simpa [cellsOf22] using hf 3 _ rfl
  have f4 : DataW.trod enc Tryd.prog w base spare held n 3 [v4] = some y4 := by simpa [cellsOf3] using hf 4 _ rfl
  have f5 : DataW.trod enc Tryd.prog w base spare held n 2 [v5] = some y5 := by simpa [cellsOf2] using hf 5 _ rfl
  have f6 : DataW.trod enc Tryd.prog w base spare held n 3 [v6] = some y6 := by simpa [cellsOf3] using hf 6 _ rfl
  obtain ⟨a0, e0, rfl, w0⟩ := DataW.trod_int Tryd.underlying22 f0
  obtain ⟨a1, e1, rfl, w1⟩ := DataW.trod_int Tryd.underlying23 f1
  obtain ⟨a2, e2, rfl, w2⟩ := DataW.trod_int Tryd.underlying24 f2
  obtain ⟨a3, e3, rfl, w3⟩ := DataW.trod_int Tryd.underlying22 f3
  obtain ⟨a4, e4, rfl, w4⟩ := DataW.trod_int Tryd.underlying3 f4
  obtain ⟨a5, e5, rfl, w5⟩ := DataW.trod_int Tryd.underlying2 f5
  obtain ⟨a6, e6, rfl, w6⟩ := DataW.trod_int Tryd.underlying3 f6
  simp only [List.cons.injEq, and_true] at e0 e1 e2 e3 e4 e5 e6
  have b0 := bounds_u32 w0
  have b1 := bounds_i64 w1
  have b2 := bounds_i64 w2
  have b3 := bounds_u32 w3
  have b4 := bounds_i64 w4
  have b5 := bounds_i64 w5
  have b6 := bounds_i64 w6
  refine ⟨⟨a0, a1, a2, a3, a4, a5, a6⟩, ?_, ⟨by simp only; omega, by simp only; omega, by simp only; omega, by simp only; omega, by simp only; omega, by simp only; omega, by simp only; omega, by simp only; omega, by simp only; omega, by simp only; omega, by simp only; omega, by simp only; omega, by simp only; omega, by simp only; omega⟩⟩
  rw [e0, e1, e2, e3, e4, e5, e6] at hc
  unfold ryV
  congr 1
  cases cs
  simpa using hc
end Go.Proofs.YtoflohjlmagjpaaDoor
