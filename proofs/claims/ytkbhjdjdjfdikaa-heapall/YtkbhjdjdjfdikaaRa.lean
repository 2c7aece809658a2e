/- The document's heap: where an item stands. -/
import Derived.Test.YtkbhjdjdjfdikaaAs
namespace Go.Proofs.Ytkbhjdjdjfdikaa
open Go.RowKit Ap Go.Shelf
attribute [local go_sem ↓] Go.wp_at_zero Go.wp_at_succ
structure RfAt (w : World) (B0 r : Nat) (kd : Int) (vl : Value) (X : List (Nat × Int)) (N : Nat) : Prop where
  head : w.heap[r]? = some (.cells [Value.int .i64 kd, vl, .int .i64 (N : Int)].toArray 37 (0, 0))
  row : w.ownsRow B0 50 2 vl X.length (ecells X)
  base : B0 ≤ r
section
variable {w w' : World} {B0 r : Nat} {kd : Int} {vl : Value} {X : List (Nat × Int)} {N : Nat}
theorem RfAt.cells (h : RfAt w B0 r kd vl X N) : w.cell? ⟨r, 0, none⟩ = some (.int .i64 kd) ∧ w.cell? ⟨r, 1, none⟩ = some vl ∧ w.cell? ⟨r, 2, none⟩ = some (.int .i64 (N : Int)) := ⟨cell_row h.head 0, cell_row h.head 1, cell_row h.head 2⟩
theorem RfAt.far (h : RfAt w B0 r kd vl X N) {S : Nat → Prop} (k : Kept w w' S) (h1 : ¬ S r) (h2 : ∀ g, vl.ownBlock = some g → ¬ S g) : RfAt w' B0 r kd vl X N :=
  ⟨k.at h.head h1, row_keepC h.row (fun g hg => by obtain ⟨_, cur, hc⟩ := own_blockC h.row hg; exact k.block g (row_lt hc) (h2 g hg)), h.base⟩
theorem RfAt.grown (h : RfAt w B0 r kd vl X N) (g : w.grownBy w' none) : RfAt w' B0 r kd vl X N := h.far (Kept.new g (fun _ => False)) id (fun _ _ => id)
set_option maxRecDepth 20000 in
theorem place_at (h : RfAt w B0 r kd vl X N) (hX : X.length ≤ 65536) (hd : Hds X N) (x : Int) : Calls Try.prog 58 #[.pointer (some ⟨r, 0, none⟩), .int .i64 x] w fun e w' => e = .returned (.int .i64 ((fi X x).elim (-1) fun (i : Nat) => (i : Int))) ∧ w' = w := by
  obtain ⟨-, c1, -⟩ := h.cells
  obtain ⟨vo, cap, rfl, hcap⟩ := own_formA h.row
  have HH := hide (And.intro h hd)
  clear h hd
  go_enter Try.func58, Try.ntmps58
  go_wp2
  go_loopg [5] X.length (fun q v wr => ∃ i : Nat, v = .int .i64 (i : Int) ∧ q = X.length - i ∧ i ≤ X.length ∧ wr = w ∧ Hid (∀ j, j < i → ((en X j).1 : Int) ≠ x))
  case atStart => exact ⟨0, rfl, rfl, Nat.zero_le _, rfl, fun j hj => by omega⟩
  case round =>
    obtain ⟨i, rfl, hq, hi, rfl, HN⟩ := hrel
    have HQ := hide hq
    clear hq
    by_cases hlt : i < X.length
    · obtain ⟨g, c2, cur, hv, hb, hg, hn, ht⟩ := own_rowC HH.out.1.row (by omega)
      cases hv
      have a0 := own_cell hg ht (ecells_get hlt).1
      have hd2 : ((i : Int) < (X.length : Int)) = True := by simp; omega
      by_cases he : ((en X i).1 : Int) = x
      · have HF := hide (fi_some HH.out.2 hlt he)
        have hee : (((en X i).1 : Int) == x) = true := by simpa using he
        clear ht hg hb he
        generalize ((en X i).1 : Int) = y at *
        go_wp2
        go_ret
        exact ⟨by rw [HF.out]; rfl, rfl⟩
      · have hee : (((en X i).1 : Int) == x) = false := by simpa using he
        have H2 : Hid (∀ j, j < i + 1 → ((en X j).1 : Int) ≠ x) := fun j hj => by
          by_cases hji : j < i
          · exact HN.out j hji
          · have : j = i := by omega
            subst this
            exact he
        have hw1 : IntKind.i64.wrap ((i : Int) + 1) = (i : Int) + 1 := by rw [IntKind.wrap_i64]; omega
        clear ht hg hb he hi
        generalize ((en X i).1 : Int) = y at *
        go_wp2
        go_roundg (X.length - (i + 1))
        case measure => have := HQ.out; omega
        case rel => exact ⟨i + 1, by simp, rfl, by omega, rfl, H2⟩
    · have hd2 : ((i : Int) < (X.length : Int)) = False := by simp; omega
      have HF : Hid (fi X x = none) := fi_none (fun j hj => HN.out j (by omega))
      clear hlt hi
      go_wp2
      go_ret
      exact ⟨by rw [HF.out]; rfl, rfl⟩
end
end Go.Proofs.Ytkbhjdjdjfdikaa
