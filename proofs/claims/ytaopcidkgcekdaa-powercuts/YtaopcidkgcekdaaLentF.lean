/- The contracts of LentFates, KeptFates. -/
import Derived.Test.YtaopcidkgcekdaaOwn
import Derived.Laws.StructEq
namespace Go.Proofs.Ytaopcidkgcekdaa
open Go.RowKit Ap
attribute [local go_sem ↓] Go.wp_at_zero Go.wp_at_succ

theorem Try.info66 : (Try.prog.info? 66).map (fun i => (i.zero, i.size, i.bytes)) = some (some (.agg #[.int .i64 0, .int .i64 0]), 2, 16) := by kernel_rfl
theorem eq_fate (K A : Int) (w : World) : (binOp .eql 66 (.agg #[.int .i64 K, .int .i64 A]) (.agg #[.int .i64 K, .int .i64 A])).run Try.prog w = .ok (.bool true) w := by
  have u3 := Try.underlying3
  have a3 := Try.isAgg3
  have z3 := Try.sizeOf3
  have u67 := Try.underlying64
  have a67 := Try.isAgg67
  have z67 := Try.sizeOf67
  have hS : Try.prog.underlying 66 = some (.struct (Try.prog.fieldsOf 66)) := by kernel_rfl
  have hp : Try.prog.stoodInHeld 66 = false := by kernel_rfl
  rw [run_eql_struct, show (10000 : Nat) = 9999 + 1 from rfl, run_equalIn_struct w 9999 66 _ _ hS hp]
  simp only [Program.fieldsOf, Try.underlying66]
  go_simp

/-- The mark of a place in a list of fates. -/
def mkF (i : Nat) : Int × Int := (0, 8000024 + (i : Int))
def fmarks (j : Nat) : List (Int × Int) := (List.range j).map mkF
theorem fmarks_length (j : Nat) : (fmarks j).length = j := by simp [fmarks]
theorem fmarks_succ (j : Nat) : fmarks (j + 1) = fmarks j ++ [mkF j] := by simp [fmarks, List.range_succ]
theorem fmarks_get (j i : Nat) (h : i < j) : (fmarks j)[i]? = some (mkF i) := by simp [fmarks, h]
theorem fcells_length (F : List (Int × Int)) : (fcells F).length = F.length * 2 := by
  induction F with
  | nil => rfl
  | cons x r ih => simp [fcells] at ih ⊢; omega
theorem fcells_append (F G : List (Int × Int)) : fcells (F ++ G) = fcells F ++ fcells G := by simp [fcells]
theorem fcells_one (F : List (Int × Int)) : ∀ u ∈ fcells F, u.oneCell' = true := by
  intro u hu
  simp [fcells] at hu
  obtain ⟨a, b, _, rfl | rfl⟩ := hu <;> rfl
/-- Fates that lie somewhere, as cells one behind the other. -/
theorem fates_news {w : World} {ad : Addr} {F : List (Int × Int)} (h : FatesAt w (some ad) F) : ∀ j u, (fcells F)[j]? = some u → w.cell? (ad.add j) = some u := by
  intro j u hu
  have hlt := (List.getElem?_eq_some_iff.1 hu).1
  rw [fcells_length] at hlt
  obtain ⟨i, r, hr, rfl⟩ : ∃ i r, r < 2 ∧ j = i * 2 + r := ⟨j / 2, j % 2, by omega, by omega⟩
  have hi : i < F.length := by omega
  obtain ⟨b, o, e, c1, c2⟩ := h i F[i] (List.getElem?_eq_getElem hi)
  obtain ⟨a1, a2⟩ := fcells_get F i F[i] (List.getElem?_eq_getElem hi)
  cases e
  rw [Addr.add_lit]
  match r, hr with
  | 0, _ => rw [Nat.add_zero] at hu ⊢; rw [a1] at hu; cases hu; exact c1
  | 1, _ => rw [a2] at hu; cases hu; exact c2
theorem own_fates {w : World} {base n g cap : Nat} {F : List (Int × Int)} (h : w.ownsRow base 66 2 (.slice (some ⟨g, 0, none⟩) n cap) n (fcells F)) : FatesAt w (some ⟨g, 0, none⟩) F := by
  intro j p hj
  obtain ⟨a1, a2⟩ := fcells_get F j p hj
  refine ⟨g, 0, rfl, ?_, ?_⟩
  · have := h.cells rfl _ _ a1
    rwa [Addr.add_lit] at this
  · have := h.cells rfl _ _ a2
    rwa [Addr.add_lit] at this
/-- append(s, x...) of fates. -/
theorem wpList_append_fates {w : World} {ops : Array Oper} {rest : List Oper} {o : Oper} {a : Act} {Q : Exit → Act → World → Prop} (hgd : o.guard = none) (s x : Operand)
    (ho : o.op = .call { callee := .builtin .append, args := #[s, x], argTypes := #[23, 23] }) (base : Nat) (v : Value) (n : Nat) (F : List (Int × Int)) (hs : a.eval s = v) (hown : w.ownsRow base 66 2 v n (fcells F))
    (ao : Option Addr) (m c : Nat) (G : List (Int × Int)) (hx : a.eval x = .slice ao m c) (hm : G.length = m) (hat : FatesAt w ao G) (hnil : ao = none → m = 0 ∧ c = 0)
    (hbytes : (n + m) * 16 ≤ 140737488355328) (hbase : base ≤ w.heap.size)
    (h : ∀ v' w', w'.ownsRow base 66 2 v' (n + m) (fcells (F ++ G)) → w.grownBy w' v.ownBlock → wpList Try.prog ops Q rest (a.put o.dst v') w') : wpList Try.prog ops Q (o :: rest) a w := by
  obtain ⟨i0, hi, hz0, hz1, hz2⟩ := info_parts Try.info66
  cases ao with
  | none =>
    obtain ⟨rfl, rfl⟩ := hnil rfl
    refine wpList_append_own_none hgd s x 23 ho base 66 i0 2 Try.underlying23 hi v n (fcells F) hs hown hx (h v w ?_ (grown_refl w _))
    have : G = [] := List.eq_nil_of_length_eq_zero hm
    subst this
    simpa using hown
  | some ad =>
    exact wpList_append_own _ hgd s x 23 ho base 66 i0 (.agg #[.int .i64 0, .int .i64 0]) 2 16 Try.underlying23 hi hz0 hz1 hz2 rfl (by decide) v n (fcells F) hs hown ad m c (fcells G) hx (by rw [fcells_length, hm]) (fates_news hat) (fcells_one G) (by unfold maxLen; omega) (by omega) hbase (fun v' w' h1 h2 _ => h v' w' (by rw [fcells_append]; exact h1) h2)
/-- Fates that were lent: they, and twelve marks behind their end. -/
def LentF (w : World) (B : Nat) (v : Value) (F : List (Int × Int)) : Prop :=
  ∃ g cap, v = .slice (some ⟨g, 0, none⟩) F.length cap ∧ w.ownsRow B 66 2 (.slice (some ⟨g, 0, none⟩) (F.length + 12) cap) (F.length + 12) (fcells (F ++ fmarks 12))
theorem slice_toF (ao : Option Addr) (len cap n : Nat) (h : n ≤ cap) (w : World) : (Instr.slice 23 (.slice ao len cap) none (some (.int .i64 (n : Int))) none).run Try.prog w = .ok (.slice ao n cap) w := by
  simp [Instr.slice, run_underlying Try.underlying23, Instr.sliceBounds, Instr.sliceBound, asIntOf, h]
  intro _; cases ao <;> simp [Addr.add]
def curF (n : Nat) : Array Value := madeCells #[.int .i64 0, .int .i64 0] ((n + 12) * 2)
theorem curF_size (n : Nat) : (curF n).size = (n + 12) * 2 := size_madeCells _ _
theorem make_capF (n : Nat) (h : n * 16 ≤ 140737488355328) (w : World) : (Instr.makeSlice 23 (.int .i64 0) (.int .i64 ((n : Int) + 12))).run Try.prog w = .ok (.slice (some ⟨w.heap.size, 0, none⟩) 0 (n + 12)) (w.alloc (.cells (curF n) 66)) := by
  obtain ⟨i0, hi, hz0, hz1, hz2⟩ := info_parts Try.info66
  rw [run_make (P := Try.prog) (w := w) 23 66 i0 (.agg #[.int .i64 0, .int .i64 0]) Try.underlying23 hi hz0 .i64 .i64 0 ((n : Int) + 12) (by omega) (by omega) (by rw [hz2]; omega) (by omega), hz1]
  have e : ((n : Int) + 12).toNat = n + 12 := by omega
  rw [e]
  rfl
end Go.Proofs.Ytaopcidkgcekdaa
