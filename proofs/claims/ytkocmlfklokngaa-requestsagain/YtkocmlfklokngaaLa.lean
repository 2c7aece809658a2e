/- Arguments that are rows of bytes, requests: shared by the rows' proofs. -/
import Derived.Test.YtkocmlfklokngaaQa
import Derived.Test.YtkocmlfklokngaaRows
import Derived.ProofKit
import Derived.OpenShut
import Derived.Deep.DeepHandedRow
import Derived.ChangeOld
import Derived.SizedLaws
namespace Go.Proofs.Ytkocmlfklokngaa
open Go.ChangeShapes Go.WideShapes Go.ChangeAt Go.RowKit Go.Deep

theorem cellsOf5 : Try.prog.cellsOf 5 = 1 := by kernel_rfl
theorem bytes5 : Try.prog.bytesOf 5 = 1 := by kernel_rfl
theorem cellsOf25 : Try.prog.cellsOf 25 = 5 := by kernel_rfl
theorem cellsOf22 : Try.prog.cellsOf 22 = 1 := by kernel_rfl
theorem cellsOf23 : Try.prog.cellsOf 23 = 1 := by kernel_rfl
theorem cellsOf3 : Try.prog.cellsOf 3 = 1 := by kernel_rfl
theorem cellsOf2 : Try.prog.cellsOf 2 = 1 := by kernel_rfl
theorem listOf5 {α : Type} {l : List α} (h : l.length = 5) : ∃ a b c d e, l = [a, b, c, d, e] := by
  match l, h with
  | [a, b, c, d, e], _ => exact ⟨a, b, c, d, e, rfl⟩
variable {H : Type} {enc : TypeId × Value → H}
theorem grown_below {a b : World} (h : a.grownBy b none) : Below a.heap.size a b := ⟨h.os, h.tape, h.output, h.size, fun k hk => h.block k hk (fun e => by cases e)⟩
set_option maxRecDepth 20000 in
/-- An argument that is a slice of bytes. -/
theorem open_bytesArg {w : World} {base : Nat} {spare : Nat → Bool} {held : Bool} {r : Reach} {b0 : Nat} {v : Value} {d : DataW H} {ps : List MemPlace} (hval : Value.okWide Try.prog w r b0 27 v) (hd : DataW.Trod enc Try.prog w base spare held 27 v d ps) (hz : ∀ n ∈ d.weights Try.prog 27, n ≤ reachBytes) :
    ∃ (ao : Option Addr) (n cap : Nat) (xs : List Int), v = .slice ao n cap ∧ xs.length = n ∧ At w ao xs ∧ Byt xs ∧ n ≤ 140737488351232 ∧ (ao = none → n = 0 ∧ cap = 0) ∧ n ≤ cap ∧ cap ≤ maxLen ∧ n ≤ Rows.uptoBulk d := by
  obtain ⟨ao, len0, cap0, rfl⟩ := okWide_slice Try.underlying27 hval
  obtain ⟨fuel, hf⟩ := hd
  refine ⟨ao, len0, cap0, ?_⟩
  rcases open_ints Try.underlying27 Try.underlying5 cellsOf5 hf with ⟨hcs, _⟩ | ⟨a, len, cap, zs, hcs, _, hl, hm, hzz, hx, hcell, hwf⟩
  · simp [Value.cells] at hcs
    obtain ⟨rfl, rfl, rfl⟩ := hcs
    exact ⟨[], rfl, rfl, At.nil _ _, (fun x hx => by cases hx), by omega, fun _ => ⟨rfl, rfl⟩, by omega, by unfold maxLen; omega, by omega⟩
  · simp [Value.cells] at hcs
    obtain ⟨rfl, rfl, rfl⟩ := hcs
    have hd : d = .slice (lits .u8 (zs.take len0)) (lits .u8 (zs.drop len0)) := congrArg Prod.fst hx
    have h1 := hz ((lits .u8 (zs.take len0) : List (DataW H)).length * 1 + (lits .u8 (zs.drop len0) : List (DataW H)).length * 1) (by
      rw [hd]; simp [DataW.weights, Try.underlying27, bytes5])
    simp only [lits, List.length_map, List.length_take, List.length_drop, reachBytes] at h1
    have hzl : len0 ≤ zs.length := by rw [hzz]; split <;> omega
    refine ⟨zs.take len0, rfl, by simp; omega, ?_, ?_, by omega, (fun e => by cases e), hl, hm, ?_⟩
    · intro j u hu
      rw [List.getElem?_take] at hu
      split at hu
      · rename_i hj
        have hj2 : j < zs.length := by omega
        rw [List.getElem?_eq_getElem hj2] at hu
        have hc := hcell j hj2
        refine ⟨a, rfl, ?_⟩
        rw [hc]
        simp [List.getD_eq_getElem?_getD, hj2] at hu ⊢
        omega
      · cases hu
    · intro x hx
      have := bounds_u8 (hwf x (List.mem_of_mem_take hx))
      omega
    · have hb : ∀ l : List Int, Rows.uptoBulkAll (lits .u8 l : List (DataW H)) = l.length := by
        intro l
        induction l with
        | nil => rfl
        | cons y l ih =>
          show Rows.uptoBulk (.lit (.int .u8 y)) + Rows.uptoBulkAll (lits .u8 l) = _
          rw [ih]
          simp [Rows.uptoBulk]
          omega
      rw [hd]
      simp only [Rows.uptoBulk, hb, List.length_take]
      omega
set_option maxRecDepth 20000 in
/-- An argument that is a request. -/
theorem open_reqArg {w : World} {base : Nat} {spare : Nat → Bool} {held : Bool} {r : Reach} {b0 : Nat} {v : Value} {d : DataW H} {ps : List MemPlace} (hval : Value.okWide Try.prog w r b0 25 v) (hd : DataW.Trod enc Try.prog w base spare held 25 v d ps) :
    ∃ q : Rq, v = rqV q ∧ q.Ok := by
  obtain ⟨cs, rfl, _⟩ := okWide_struct Try.underlying25 hval
  obtain ⟨fuel, h⟩ := hd
  have h : DataW.trod enc Try.prog w base spare held fuel 25 cs.toList = some (d, ps) := h
  obtain ⟨xs, n, _, hx, hl, hsz, hf⟩ := DataW.trod_struct Try.underlying25 h
  rw [cellsOf25] at hl
  obtain ⟨v0, v1, v2, v3, v4, hc⟩ := listOf5 hl
  obtain ⟨y0, y1, y2, y3, y4, rfl⟩ := listOf5 (show xs.length = 5 from hsz)
  rw [hc] at hf
  have f0 : DataW.trod enc Try.prog w base spare held n 22 [v0] = some y0 := by simpa [cellsOf22] using hf 0 _ rfl
  have f1 : DataW.trod enc Try.prog w base spare held n 23 [v1] = some y1 := by simpa [cellsOf23] using hf 1 _ rfl
  have f2 : DataW.trod enc Try.prog w base spare held n 23 [v2] = some y2 := by simpa [cellsOf23] using hf 2 _ rfl
  have f3 : DataW.trod enc Try.prog w base spare held n 3 [v3] = some y3 := by simpa [cellsOf3] using hf 3 _ rfl
  have f4 : DataW.trod enc Try.prog w base spare held n 2 [v4] = some y4 := by simpa [cellsOf2] using hf 4 _ rfl
  obtain ⟨a, e0, rfl, wa⟩ := DataW.trod_int Try.underlying22 f0
  obtain ⟨b, e1, rfl, wb⟩ := DataW.trod_int Try.underlying23 f1
  obtain ⟨c, e2, rfl, wc⟩ := DataW.trod_int Try.underlying23 f2
  obtain ⟨e, e3, rfl, we⟩ := DataW.trod_int Try.underlying3 f3
  obtain ⟨f, e4, rfl, wf⟩ := DataW.trod_int Try.underlying2 f4
  simp only [List.cons.injEq, and_true] at e0 e1 e2 e3 e4
  have ba := bounds_i64 wa
  have bb := bounds_u32 wb
  have bc := bounds_u32 wc
  have be := bounds_i64 we
  have bf := bounds_i64 wf
  refine ⟨⟨a, b, c, e, f⟩, ?_, ⟨by simp only; omega, by simp only; omega, by simp only; omega, by simp only; omega, by simp only; omega, by simp only; omega, by simp only; omega, by simp only; omega, by simp only; omega, by simp only; omega⟩⟩
  rw [e0, e1, e2, e3, e4] at hc
  unfold rqV
  congr 1
  cases cs
  simpa using hc
end Go.Proofs.Ytkocmlfklokngaa
