/- The contract of awake. -/
import Derived.Test.YtaopcidkgcekdaaDev3
namespace Go.Proofs.Ytaopcidkgcekdaa
open Go.RowKit Ap
attribute [local go_sem ↓] Go.wp_at_zero Go.wp_at_succ

/-- A block that a device does not know. -/
structure Aside (w : World) (k : Dk) (b A : Nat) (o : Obj) : Prop where
  at_ : w.heap[A]? = some o
  own : ¬ k.own A
  ne : A ≠ b
section
variable {w w' : World} {k k' : Dk} {b A : Nat} {o : Obj} {W W' : List Wt}
theorem Aside.moved (h : Aside w k b A o) (m : DvM w w' b k k' W W') : Aside w' k' b A o := by
  refine ⟨m.kept.at h.at_ (fun e => e.elim h.own h.ne), ?_, h.ne⟩
  intro e
  rcases m.own A e with e | e
  · exact h.own e
  · have := row_lt h.at_; omega
theorem Aside.new (h : Aside w k b A o) (hg : w.grownBy w' none) : Aside w' k b A o := ⟨(hg.block A (row_lt h.at_) (by simp)).trans h.at_, h.own, h.ne⟩
theorem Dev.aside {w0 : World} {n size : Nat} {s : Dv} {D : List Nat} (h : Dev w0 w n size b s k D W) (_hg : w.grownBy w' none) (hA : w'.heap[A]? = some o) (hl : w.heap.size ≤ A) : Aside w' k b A o := by
  refine ⟨hA, fun e => ?_, ?_⟩
  · have := h.disk.disk.lt A (.inl e); omega
  · have := h.dev.lt; omega
end
def awkX : List Nat := (zs 64).set 9 7
theorem awk_len : awkX.length = 64 := by kernel_rfl
theorem awk_wabs : wabs 4 64 1 awkX [] = [(1, awkX)] := by simp [wabs, awk_len]
theorem awk_sec : secOf 64 (stlP 64 (fun _ => 64) (zs (4 * 64)) [(1, awkX)] 1) 1 = awkX := by kernel_rfl
theorem set_bytes {w : World} {A i v : Nat} {xs : List Nat} (h : w.heap[A]? = some (.cells (bv xs).toArray 5 (0, 0))) : (w.setCell ⟨A, i, none⟩ (.int .u8 (v : Int))).heap[A]? = some (.cells (bv (xs.set i v)).toArray 5 (0, 0)) := by
  have := row_setCell h i (.int .u8 (v : Int))
  rw [this]
  simp [bv, List.map_set]
theorem abs_nil {W : List Wt} (h : abs W = []) : W = [] := by simpa [abs] using h
set_option maxRecDepth 20000 in
set_option maxHeartbeats 4000000 in
theorem awake_any (w : World) : Calls Try.prog 7 #[] w fun e w' => e = .returned (.bool true) ∧ w.grownBy w' none := by
  go_enter Try.func7, Try.ntmps7
  go_wp2_with fail
  refine (newS 4 64 w w (grown_refl _ _) may_4_64).mono ?_
  rintro e w1 ⟨k, rfl, h1, h2, h3⟩
  have HN := hide h1
  clear h1 h2 h3
  go_wp2_with fail
  refine (dnew_any rfl HN.out).mono ?_
  rintro e w2 ⟨b, rfl, d2, l2, g2⟩
  have H2 := hide d2
  clear d2 l2 g2
  have hmk : ∀ w : World, (Instr.makeSlice 22 (.int .i64 64) (.int .i64 64)).run Try.prog w = .ok (.slice (some ⟨w.heap.size, 0, none⟩) 64 64) (w.alloc (.cells (bv (zs 64)).toArray 5)) := fun w => make_bytes 64 (by omega) w
  have r0 := heap_alloc_new w2 (.cells (bv (zs 64)).toArray 5)
  have f9 : (w2.alloc (.cells (bv (zs 64)).toArray 5)).frozen? ⟨w2.heap.size, 9, none⟩ = false := free_row r0 9
  have c9 : (w2.alloc (.cells (bv (zs 64)).toArray 5)).cell? ⟨w2.heap.size, 9, none⟩ = some (.int .u8 0) := cell_row r0 9
  go_wp2_with fail
  clear r0 f9 c9
  have g3 := World.grownBy_alloc w2 (.cells ((bv (zs 64)).set 9 (.int .u8 7)).toArray 5) none
  have r3 : (w2.alloc (.cells ((bv (zs 64)).set 9 (.int .u8 7)).toArray 5)).heap[w2.heap.size]? = some (.cells (bv awkX).toArray 5 (0, 0)) := heap_alloc_new w2 _
  have X3 := hide (H2.out.aside g3 r3 (Nat.le_refl _))
  have H3 := hide (H2.out.then g3)
  clear g3 r3
  generalize w2.alloc (.cells ((bv (zs 64)).set 9 (.int .u8 7)).toArray 5) = w3 at *
  generalize w2.heap.size = A at *
  refine (dwrite_any H3.out (by simp) (by decide) 1 (some ⟨A, 0, none⟩) 64 64 awkX (at_row X3.out.at_) awk_len).mono ?_
  rintro e w4 ⟨rfl, k4, W4, d4, m4, a4, l4⟩
  rw [show Dv.anew.code (wcode 4 64 1 64) = 0 by decide]
  have H4 := hide d4
  have X4 := hide (X3.out.moved m4)
  have E4 : Hid (abs W4 = [(1, awkX)]) := a4.trans (by rw [show Dv.anew.goes = true by decide, if_pos rfl]; exact awk_wabs)
  have S4 : Dv.anew.next = ⟨false, -1, 1⟩ := by rfl
  rw [S4] at H4
  clear d4 m4 a4 l4 S4
  go_wp2_with fail
  refine (arm_any H4.out.dev 1 (by omega)).mono ?_
  rintro e w5 ⟨rfl, d5, g5⟩
  rw [show Dv.upc ⟨false, -1, 1⟩ = 0 by decide]
  have H5 := hide (H4.out.dset g5 d5)
  have X5 := hide (X4.out.moved (DvM.row (W := W4) g5))
  rw [show Dv.armed ⟨false, -1, 1⟩ 1 = ⟨false, 1, 1⟩ by rfl] at H5
  clear d5 g5
  go_wp2_with fail
  refine (dsync_any H5.out (by decide)).mono ?_
  rintro e w6 ⟨rfl, k6, D6, W6, d6, m6, a6, l6⟩
  rw [show Dv.code ⟨false, 1, 1⟩ 0 = 0 by decide]
  have H6 := hide d6
  have X6 := hide (X5.out.moved m6)
  have E6 : Hid (D6 = stlP 64 (fun _ => 64) (zs (4 * 64)) [(1, awkX)] 1 ∧ abs W6 = []) := by
    rw [show Dv.goes ⟨false, 1, 1⟩ = true by decide, if_pos rfl, E4.out] at a6
    exact Prod.mk.inj a6
  rw [show Dv.next ⟨false, 1, 1⟩ = ⟨false, 0, 2⟩ by rfl] at H6
  clear d6 m6 a6 l6
  have hW6 : W6 = [] := abs_nil E6.out.2
  subst hW6
  go_wp2_with fail
  have g7 := World.grownBy_alloc w6 (.cells (bv (zs 64)).toArray 5) none
  have r7 := heap_alloc_new w6 (.cells (bv (zs 64)).toArray 5)
  have X7 := hide (X6.out.new g7)
  have H7 := hide (H6.out.then g7)
  have R7 := hide r7
  clear g7 r7
  generalize w6.alloc (.cells (bv (zs 64)).toArray 5) = w7 at *
  generalize w6.heap.size = A2 at *
  refine (dwrite_any H7.out (by simp) (by decide) 1 (some ⟨A2, 0, none⟩) 64 64 (zs 64) (at_row R7.out) (by simp [zs])).mono ?_
  rintro e w8 ⟨rfl, k8, W8, d8, m8, a8, l8⟩
  rw [show Dv.code ⟨false, 0, 2⟩ (wcode 4 64 1 64) = 60 by decide]
  have H8 := hide d8
  have X8 := hide (X7.out.moved m8)
  have E8 : Hid (abs W8 = []) := by rw [show Dv.goes ⟨false, 0, 2⟩ = false by decide] at a8; exact a8
  rw [show Dv.next ⟨false, 0, 2⟩ = ⟨true, -1, 2⟩ by rfl] at H8
  clear d8 m8 a8 l8
  have hW8 : W8 = [] := abs_nil E8.out
  subst hW8
  go_wp2_with fail
  refine (down_any H8.out.dev).mono ?_
  rintro e w' ⟨rfl, rfl⟩
  go_wp2_with fail
  refine (restart_any H8.out none 0 0 [] rfl (fun j p hj => by simp at hj) (fun a e => by cases e)).mono ?_
  rintro e w9 ⟨rfl, D9, d9, m9, a9⟩
  have H9 := hide d9
  have X9 := hide (X8.out.moved m9)
  have E9 : Hid (D9 = D6) := (Prod.mk.inj a9).1
  clear d9 m9 a9
  go_wp2_with fail
  refine (dread_any H9.out (by decide) 1).mono ?_
  rintro e w10 ⟨v, rfl, v10, d10, m10⟩
  rw [show Dv.anew.code (rcode 4 1) = 0 by decide]
  have X10 := hide (X9.out.moved m10)
  have H10 := hide d10
  rw [show Dv.anew.next = ⟨false, -1, 1⟩ by rfl] at H10
  rw [show Dv.anew.goes = true by decide, if_pos rfl] at v10
  have ef : rbytes 4 64 D9 [] 1 = awkX := by
    show secOf 64 D9 1 = awkX
    rw [E9.out, E6.out.1]; exact awk_sec
  rw [ef] at v10
  obtain ⟨g, hv, R10⟩ : ∃ g, v = .slice (some ⟨g, 0, none⟩) 64 64 ∧ Hid (w10.heap[g]? = some (.cells (bv awkX).toArray 5 (0, 0))) := by
    rcases v10 with ⟨_, h⟩ | ⟨g, h1, h2, h3, h4⟩
    · have := congrArg List.length h; rw [awk_len] at this; simp at this
    · exact ⟨g, h1, h3⟩
  subst hv
  clear v10 d10 m10 ef
  go_wp2_with fail
  refine (sameBytes_eq (some ⟨A, 0, none⟩) (some ⟨g, 0, none⟩) 64 64 64 awkX w10 awk_len (at_row X10.out.at_) (at_row R10.out) (by omega)).mono ?_
  rintro e w11 ⟨rfl, q, rfl⟩
  have H11 := hide (H10.out.then (grown_drewN _ q none))
  go_wp2_with fail
  refine (count_any H11.out.dev).mono ?_
  rintro e w' ⟨rfl, rfl⟩
  go_wp2
  go_ret
  exact ⟨rfl, H11.out.disk.grown⟩
end Go.Proofs.Ytaopcidkgcekdaa
