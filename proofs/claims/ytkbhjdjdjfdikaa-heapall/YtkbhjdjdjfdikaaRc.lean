/- The document's heap: Least, Pop. -/
import Derived.Test.YtkbhjdjdjfdikaaRb
import Derived.Deep.QuietTactic
namespace Go.Proofs.Ytkbhjdjdjfdikaa
open Go.RowKit Ap Go.Shelf
attribute [local go_sem ↓] Go.wp_at_zero Go.wp_at_succ
/-- The place of the least of the first i + 1, as it is gone through. -/
def rl (k : Int) (X : List (Nat × Int)) : Nat → Nat
  | 0 => 0
  | i + 1 => if lessK k (en X (i + 1)).2 (en X (rl k X i)).2 then i + 1 else rl k X i
theorem rl_le (k : Int) (X : List (Nat × Int)) (i : Nat) : rl k X i ≤ i := by
  induction i with
  | zero => exact Nat.le_refl _
  | succ i ih => unfold rl; split <;> omega
section
variable {w w' : World} {B0 r : Nat} {kd : Int} {vl : Value} {X : List (Nat × Int)} {N : Nat}
set_option maxRecDepth 20000 in
theorem rleast_none (h : RfAt w B0 r kd vl [] N) : Calls Try.prog 40 #[.pointer (some ⟨r, 0, none⟩)] w fun e w' => e = .returned (.tuple #[.int .i64 0, .int .i64 0, .bool false]) ∧ w' = w := by
  obtain ⟨-, c1, -⟩ := h.cells
  obtain ⟨vo, cap, rfl, hcap⟩ := own_formA h.row
  clear h
  go_enter Try.func40, Try.ntmps40
  go_wp2
  go_ret3
  exact ⟨rfl, rfl⟩
set_option maxRecDepth 20000 in
theorem rleast_at (h : RfAt w B0 r kd vl X N) (hz : 0 < X.length) (hX : X.length ≤ 65536) (hok : ∀ e ∈ X, I64 e.2) : Calls Try.prog 40 #[.pointer (some ⟨r, 0, none⟩)] w fun e w' => e = .returned (.tuple #[.int .i64 (en X (rl kd X (X.length - 1))).2, .int .i64 ((en X (rl kd X (X.length - 1))).1 : Int), .bool true]) ∧ w.grownBy w' none := by
  obtain ⟨c0, c1, -⟩ := h.cells
  obtain ⟨g, cap, cur, rfl, hb, hg, hn, ht⟩ := own_rowC h.row hz
  have a0 := own_cell hg ht (ecells_get hz).1
  have a1 := own_cell hg ht (ecells_get hz).2
  have hz2 : ((X.length : Int) == 0) = false := by rw [beq_eq_false_iff_ne]; omega
  have HH := hide (And.intro h (And.intro hg (And.intro ht hok)))
  simp at a0 a1
  obtain ⟨b, hbb⟩ : ∃ b, b = w.heap.size := ⟨_, rfl⟩
  have ga := World.grownBy_alloc w (.cells #[.int .i64 ((en X 0).1 : Int), .int .i64 (en X 0).2] 50) none
  have H0 : Hid (∃ m, m = rl kd X 0 ∧ (w.alloc (.cells #[.int .i64 ((en X 0).1 : Int), .int .i64 (en X 0).2] 50)).heap[b]? = some (.cells [Value.int .i64 ((en X m).1 : Int), .int .i64 (en X m).2].toArray 50 (0, 0)) ∧ w.grownBy (w.alloc (.cells #[.int .i64 ((en X 0).1 : Int), .int .i64 (en X 0).2] 50)) none) := ⟨0, rfl, by rw [hbb]; exact heap_alloc_new w _, ga⟩
  have HB := hide hbb
  clear h hg ht hb hok ga hbb
  go_enter Try.func40, Try.ntmps40
  go_wp2
  rw [← HB.out]
  go_loopg [6] X.length (fun q v wr => ∃ t : Nat, v = .int .i64 (t : Int) ∧ q = X.length + 1 - t ∧ t ≤ X.length ∧ 1 ≤ t ∧ Hid (∃ m, m = rl kd X (t - 1) ∧ wr.heap[b]? = some (.cells [Value.int .i64 ((en X m).1 : Int), .int .i64 (en X m).2].toArray 50 (0, 0)) ∧ w.grownBy wr none))
  case atStart => exact ⟨1, rfl, by omega, hz, Nat.le_refl _, H0.out⟩
  case round =>
    obtain ⟨t, rfl, hq, hi, ht1, HS⟩ := hrel
    obtain ⟨m, hm, hbx, gr⟩ := HS.out
    have HQ := hide hq
    clear hq HS H0 a0 a1
    have d0 := gr.cell c0 (by simp)
    have d1 := gr.cell c1 (by simp)
    have x0 := cell_row hbx 0
    have x1 := cell_row hbx 1
    simp at x0 x1
    by_cases hlt : t < X.length
    · have y0 := gr.cell (own_cell HH.out.2.1 HH.out.2.2.1 (ecells_get hlt).1) (by simp)
      have y1 := gr.cell (own_cell HH.out.2.1 HH.out.2.2.1 (ecells_get hlt).2) (by simp)
      have hml : m ≤ t - 1 := by rw [hm]; exact rl_le _ _ _
      have hless := fun W => less_any kd (en X t).2 (en X m).2 W (HH.out.2.2.2 _ (en_mem hlt)) (HH.out.2.2.2 _ (en_mem (by omega)))
      have hrl : rl kd X t = if lessK kd (en X t).2 (en X m).2 then t else m := by
        obtain ⟨s, rfl⟩ : ∃ s, t = s + 1 := ⟨t - 1, by omega⟩
        rw [rl, hm]
        rfl
      have hd2 : ((t : Int) < (X.length : Int)) = True := by simp; omega
      have fb0 : wr.frozen? ⟨b, 0, none⟩ = false := free_row hbx 0
      have fb1 : wr.frozen? ⟨b, 1, none⟩ = false := free_row hbx 1
      have HM := hide (And.intro hm (And.intro hbx (And.intro gr (And.intro hml (And.intro hrl hlt)))))
      have hw1 : IntKind.i64.wrap ((t : Int) + 1) = (t : Int) + 1 := by rw [IntKind.wrap_i64]; omega
      clear hm hbx gr hml hrl c0 c1
      obtain ⟨lk, hlk⟩ : ∃ lk, lk = lessK kd (en X t).2 (en X m).2 := ⟨_, rfl⟩
      rw [← hlk] at hless HM
      have HLK := hide hlk
      clear hlk
      obtain ⟨yv, hyv⟩ : ∃ yv, yv = (en X t).2 := ⟨_, rfl⟩
      obtain ⟨xv, hxv⟩ : ∃ xv, xv = (en X m).2 := ⟨_, rfl⟩
      obtain ⟨yh, hyh⟩ : ∃ yh, yh = ((en X t).1 : Int) := ⟨_, rfl⟩
      rw [← hyv, ← hxv] at hless
      rw [← hyv] at y1
      rw [← hxv] at x1
      rw [← hyh] at y0
      have HY := hide (And.intro hyv (And.intro hxv hyh))
      clear hyv hxv hyh
      go_upto_region 7 with fail
      go_quiet ((go_at_call 56; refine Calls.quiet_of_same (hless _)))
      cases lk with
      | false =>
        go_wp2
        go_roundg (X.length + 1 - (t + 1))
        case measure => have := HQ.out; omega
        case rel => exact ⟨t + 1, by simp, rfl, by omega, by omega, m, by have := HM.out.2.2.2.2.1; simpa using this.symm, HM.out.2.1, grown_trans HM.out.2.2.1 (grown_drewN _ _ _)⟩
      | true =>
        have hb0 : (wr.drewN nq).heap[b]? = some (.cells [Value.int .i64 ((en X m).1 : Int), .int .i64 (en X m).2].toArray 50 (0, 0)) := HM.out.2.1
        have hb2 := row_setCell (row_setCell hb0 0 (.int .i64 yh)) 1 (.int .i64 yv)
        have hbw : w.heap.size ≤ b := by rw [HB.out]; exact Nat.le_refl _
        have gf := grown_then (grown_then (grown_trans HM.out.2.2.1 (grown_drewN wr nq none)) (grown_setCell (wr.drewN nq) b 0 (.int .i64 yh)) (fun j e => Or.inl (by cases e; exact hbw))) (grown_setCell ((wr.drewN nq).setCell ⟨b, 0, none⟩ (.int .i64 yh)) b 1 (.int .i64 yv)) (fun j e => Or.inl (by cases e; exact hbw))
        have HF := hide (And.intro hb2 gf)
        clear hb0 hb2 hbw gf
        go_wp2
        go_roundg (X.length + 1 - (t + 1))
        case measure => have := HQ.out; omega
        case rel => exact ⟨t + 1, by simp, rfl, by omega, by omega, t, by have := HM.out.2.2.2.2.1; simpa using this.symm, by have := HF.out.1; rw [HY.out.1, HY.out.2.2] at this ⊢; exact this, HF.out.2⟩
    · have hd2 : ((t : Int) < (X.length : Int)) = False := by simp; omega
      obtain rfl : t = X.length := by omega
      have HM := hide (And.intro hm gr)
      clear hlt hi ht1 hm gr hbx d0 d1
      obtain ⟨xv, hxv⟩ : ∃ xv, xv = (en X m).2 := ⟨_, rfl⟩
      obtain ⟨xh, hxh⟩ : ∃ xh, xh = ((en X m).1 : Int) := ⟨_, rfl⟩
      rw [← hxv] at x1
      rw [← hxh] at x0
      have HX := hide (And.intro hxv hxh)
      clear hxv hxh
      have d1 := HM.out.2.cell c1 (by simp)
      go_upto_region 9 with fail
      go_quiet (fail)
      go_wp2
      go_ret3
      exact ⟨by rw [← HM.out.1, ← HX.out.1, ← HX.out.2]; rfl, grown_trans HM.out.2 (grown_drewN _ _ _)⟩
set_option maxRecDepth 20000 in
theorem rpop_none (h : RfAt w B0 r kd vl [] N) (hB : B0 ≤ w.heap.size) : Calls Try.prog 57 #[.pointer (some ⟨r, 0, none⟩)] w fun e w' => e = .returned (.tuple #[.int .i64 0, .int .i64 0, .bool false]) ∧ ∃ vl', RfAt w' B0 r kd vl' [] N ∧ Rst w w' r vl vl' := by
  have hl := rleast_none h
  have hdr := rdrop_at h (by simp) ⟨fun i j hi => by simp at hi, fun i hi => by simp at hi⟩ hB 0
  have hf : fi ([] : List (Nat × Int)) 0 = none := rfl
  rw [hf] at hdr
  simp only [Option.elim] at hdr
  clear hf h
  go_enter Try.func57, Try.ntmps57
  go_wp2_with fail
  refine hl.mono ?_
  clear hl
  rintro e w1 ⟨rfl, hw1⟩
  obtain rfl := hw1.symm
  go_wp2_with fail
  refine hdr.mono ?_
  clear hdr
  rintro e w2 ⟨rfl, vl', h2, k2⟩
  have H2 := hide (And.intro h2 k2)
  clear h2 k2
  go_wp2
  go_ret3
  exact ⟨rfl, vl', H2.out.1, H2.out.2⟩
set_option maxRecDepth 20000 in
theorem rpop_at (h : RfAt w B0 r kd vl X N) (hz : 0 < X.length) (hX : X.length ≤ 65536) (hd : Hds X N) (hB : B0 ≤ w.heap.size) (hok : ∀ e ∈ X, I64 e.2) : Calls Try.prog 57 #[.pointer (some ⟨r, 0, none⟩)] w fun e w' => e = .returned (.tuple #[.int .i64 (en X (rl kd X (X.length - 1))).2, .int .i64 ((en X (rl kd X (X.length - 1))).1 : Int), .bool true]) ∧ ∃ vl', RfAt w' B0 r kd vl' (X.eraseIdx (rl kd X (X.length - 1))) N ∧ Rst w w' r vl vl' := by
  have hl := rleast_at h hz hX hok
  have hm : rl kd X (X.length - 1) < X.length := by have := rl_le kd X (X.length - 1); omega
  generalize rl kd X (X.length - 1) = m at *
  have hdr : ∀ w1 : World, w.grownBy w1 none → Calls Try.prog 36 #[.pointer (some ⟨r, 0, none⟩), .int .i64 ((en X m).1 : Int)] w1 fun e w' => e = .returned (.bool true) ∧ ∃ vl', RfAt w' B0 r kd vl' (X.eraseIdx m) N ∧ Rst w1 w' r vl vl' := fun w1 g => by
    have := rdrop_at (h.grown g) hX hd (Nat.le_trans hB g.size) ((en X m).1 : Int)
    rw [fi_at hd hm] at this
    simpa only [Option.elim, Option.isSome_some] using this
  have HD := hide hdr
  clear h hdr hd
  generalize (en X m).2 = y at *
  generalize (en X m).1 = x at *
  go_enter Try.func57, Try.ntmps57
  go_wp2_with fail
  refine hl.mono ?_
  clear hl
  rintro e w1 ⟨rfl, g1⟩
  have hdr := HD.out w1 g1
  have HG := hide g1
  clear g1
  go_wp2_with fail
  refine hdr.mono ?_
  clear hdr
  rintro e w2 ⟨rfl, vl', h2, k2⟩
  have H2 := hide (And.intro h2 (k2.from HG.out))
  clear h2 k2
  go_wp2
  go_ret3
  exact ⟨rfl, vl', H2.out.1, H2.out.2⟩
end
end Go.Proofs.Ytkbhjdjdjfdikaa
