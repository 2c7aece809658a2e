/- An index beside the document's: one step of both. -/
import Derived.Test.YtoocaioilpgmeaaRc
namespace Go.Proofs.Ytoocaioilpgmeaa
open Go.RowKit Ix Go.Shelf
attribute [local go_sem ↓] Go.wp_at_zero Go.wp_at_succ
theorem idV_get {M : List (Nat × Int)} {i : Nat} (h : i < M.length) : (idV M)[i]? = some (.int .u64 ((en M i).1 : Int)) := by simp [idV, en, h]
theorem vlV_get {M : List (Nat × Int)} {i : Nat} (h : i < M.length) : (vlV M)[i]? = some (.int .i64 (en M i).2) := by simp [vlV, en, h]
set_option maxRecDepth 20000 in
set_option maxHeartbeats 2000000 in
theorem is_at {w : World} {p : Ip} {M : List (Nat × Int)} {lo : Bool} {B0 : Nat} {vl : Value} (h : Io w p M lo) (hr : w.ownsRow B0 75 2 vl M.length (icells M)) : Calls Try.prog 22 #[.pointer (some ⟨p.x, 0, none⟩), vl] w fun e w' => e = .returned (.bool true) ∧ w.grownBy w' none := by
  have htl := told_io h
  obtain ⟨vo, vc, rfl, -⟩ := own_form hr
  have hM := h.short
  have hids := h.ids
  have HR := hide (And.intro hr hids)
  clear h hr hids
  obtain ⟨L, hL⟩ : ∃ L, L = M.length := ⟨_, rfl⟩
  rw [← hL] at hM ⊢
  have HL := hide hL
  clear hL
  go_enter Try.func22, Try.ntmps22
  go_wp2_with fail
  refine htl.mono ?_
  clear htl
  rintro e w1 ⟨va, vb, rfl, h1, h2, g1⟩
  obtain ⟨sa, ca, rfl, -⟩ := own_form h1
  obtain ⟨sb, cb, rfl, -⟩ := own_form h2
  have H1 := hide (And.intro h1 (And.intro h2 g1))
  rw [← HL.out]
  clear h1 h2 g1
  go_wp2
  go_loopg [8] L (fun q v8 wr => ∃ i : Nat, v8 = .int .i64 (i : Int) ∧ i ≤ L ∧ Hid (q = L - i ∧ w1.grownBy wr none))
  case atStart => exact ⟨0, rfl, Nat.zero_le _, by simp, grown_refl _ _⟩
  case round =>
    obtain ⟨i, rfl, hiL, HG⟩ := hrel
    by_cases hi : i < L
    · have hiM : i < M.length := by rw [← HL.out]; exact hi
      obtain ⟨ga, _, cua, e1, -, hga, -, -, -, hta⟩ := own_row H1.out.1 (by have := HL.out; omega)
      obtain ⟨gb, _, cub, e2, -, hgb, -, -, -, htb⟩ := own_row H1.out.2.1 (by have := HL.out; omega)
      obtain ⟨gc, _, cuc, e3, -, hgc, -, -, -, htc⟩ := own_row (own_grown HR.out.1 H1.out.2.2) (by have := HL.out; omega)
      cases e1
      cases e2
      cases e3
      have z1 := HG.out.2.cell (own_cell hga hta (idV_get hiM)) (by simp)
      have z2 := HG.out.2.cell (own_cell hgb htb (vlV_get hiM)) (by simp)
      have z3 := HG.out.2.cell (own_cell hgc htc (icells_get hiM).1) (by simp)
      have z4 := HG.out.2.cell (own_cell hgc htc (icells_get hiM).2) (by simp)
      have hk := (HR.out.2 _ (en_mem hiM)).1
      have b1 : ((i : Int) < (L : Int)) = True := by simp; omega
      have b2 : IntKind.i64.wrap ((i : Int) + 1) = (i : Int) + 1 := by rw [IntKind.wrap_i64]; omega
      clear hga hta hgb htb hgc htc hiM
      generalize (en M i).1 = yk at *
      generalize (en M i).2 = yv at *
      have x1 : IntKind.u64.wrap (yk : Int) = (yk : Int) := by rw [wrap_u64]; omega
      go_wp2
      go_quiet (fail)
      go_wp2
      go_roundg (gk - 1)
      case rel => exact ⟨i + 1, by simp, by omega, by have := HG.out.1; omega, grown_trans HG.out.2 (grown_drewN _ _ _)⟩
      case measure => have := HG.out.1; omega
    · have b1 : ((i : Int) < (L : Int)) = False := by simp; omega
      go_wp2
      go_ret
      exact ⟨rfl, grown_trans H1.out.2.2 HG.out.2⟩
/-- An index and the document's, side by side. -/
structure Tw (w0 w : World) (p : Ip) (r : Nat) (vl : Value) (M X : List (Nat × Int)) (lo : Bool) : Prop where
  io : Io w p M lo
  rf : RfAt w w0.heap.size r p.m vl X
  gr : w0.grownBy w none
  own : ∀ i, p.own i → w0.heap.size ≤ i
  sep : ∀ i, p.own i → i ≠ r ∧ vl.ownBlock ≠ some i
section
variable {w0 w w' : World} {p : Ip} {r : Nat} {vl vl' : Value} {M X M' X' : List (Nat × Int)} {lo lo' : Bool}
theorem RfAt.lt (h : RfAt w w0.heap.size r p.m vl X) : r < w.heap.size ∧ ∀ g, vl.ownBlock = some g → g < w.heap.size := ⟨row_lt h.head, fun g hg => by obtain ⟨_, cur, hc⟩ := own_block h.row hg; exact row_lt hc⟩
theorem Tw.then (t : Tw w0 w p r vl M X lo) (g : w.grownBy w' none) : Tw w0 w' p r vl M X lo := ⟨t.io.then g, t.rf.grown g, grown_trans t.gr g, t.own, t.sep⟩
theorem Tw.ix (t : Tw w0 w p r vl M X lo) (h : Io w' p M' lo') (k : Kept w w' p.own) : Tw w0 w' p r vl M' X lo' := by
  refine ⟨h, ⟨k.at t.rf.head (fun e => (t.sep _ e).1 rfl), row_keep t.rf.row (fun g hg => k.block g (t.rf.lt.2 g hg) (fun e => (t.sep _ e).2 hg)), t.rf.base⟩, ?_, t.own, t.sep⟩
  exact Kept.grown ((Kept.new t.gr (fun i => w0.heap.size ≤ i)).trans k (fun i _ e => t.own i e)) (fun i hi e => by omega)
theorem Tw.ref (t : Tw w0 w p r vl M X lo) (h : RfAt w' w0.heap.size r p.m vl' X') (k : Rst w w' r vl vl') : Tw w0 w' p r vl' M X' lo := by
  refine ⟨t.io.far k.kept (fun i hi e => ?_), h, ?_, t.own, fun i hi => ⟨(t.sep i hi).1, fun e => ?_⟩⟩
  · rcases e with e | e
    · exact (t.sep i hi).1 e
    · exact (t.sep i hi).2 e
  · refine Kept.grown ((Kept.new t.gr (fun i => w0.heap.size ≤ i)).trans k.kept ?_) (fun i hi e => by omega)
    rintro i hi (e | e)
    · rw [e]; exact t.rf.base
    · exact (own_block t.rf.row e).1
  · rcases k.own i e with e | e
    · exact (t.sep i hi).2 e
    · have := t.io.lt i hi; omega
end
end Go.Proofs.Ytoocaioilpgmeaa
