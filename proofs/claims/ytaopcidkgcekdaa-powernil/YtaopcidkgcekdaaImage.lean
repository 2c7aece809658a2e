/- The contract of Image. -/
import Derived.Test.YtaopcidkgcekdaaOwn
namespace Go.Proofs.Ytaopcidkgcekdaa
open Go.RowKit Ap
attribute [local go_sem ↓] Go.wp_at_zero Go.wp_at_succ

theorem Try.info22 : (Try.prog.info? 22).map (fun i => (i.zero, i.size, i.bytes)) = some (some (.slice none 0 0), 1, 24) := by kernel_rfl
/-- Slices of one size, each from the beginning of its block. -/
def slv (size : Nat) (hs : List Nat) : List Value := hs.map fun h => bsl h size
def nils (n : Nat) : List Value := List.replicate n (.slice none 0 0)
theorem made_nils (n : Nat) : madeCells #[.slice none 0 0] n = (nils n).toArray := by
  apply Array.ext'
  rw [toList_madeCells_one]; rfl
theorem make_rows (n : Nat) (h : n ≤ 65536) (w : World) : (Instr.makeSlice 54 (.int .i64 (n : Int)) (.int .i64 (n : Int))).run Try.prog w = .ok (.slice (some ⟨w.heap.size, 0, none⟩) n n) (w.alloc (.cells (nils n).toArray 22)) := by
  obtain ⟨i0, hi, hz0, hz1, hz2⟩ := info_parts Try.info22
  rw [run_make (P := Try.prog) (w := w) 54 22 i0 (.slice none 0 0) Try.underlying54 hi hz0 .i64 .i64 (n : Int) (n : Int) (by omega) (by omega) (by rw [hz2]; omega) (by omega), hz1]
  rw [Int.toNat_natCast, Nat.mul_one]
  show Result.ok _ (w.alloc (.cells (madeCells #[.slice none 0 0] n) 22)) = _
  rw [made_nils]
/-- Rows in blocks of their own lie behind the slices of block g. -/
structure ImgAt (w : World) (lo g size : Nat) (R : List (List Nat)) (hs : List Nat) : Prop where
  row : w.heap[g]? = some (.cells (slv size hs).toArray 22 (0, 0))
  len : hs.length = R.length
  rows : ∀ (j h : Nat) (xs : List Nat), hs[j]? = some h → R[j]? = some xs → w.heap[h]? = some (.cells (bv xs).toArray 5 (0, 0)) ∧ xs.length = size ∧ lo ≤ h
  up : ∀ (i j a b : Nat), hs[i]? = some a → hs[j]? = some b → i < j → a < b
theorem ImgAt.grown {w w' : World} {lo g size : Nat} {R : List (List Nat)} {hs : List Nat} (h : ImgAt w lo g size R hs) (hg : w.grownBy w' none) : ImgAt w' lo g size R hs :=
  ⟨(hg.block _ (row_lt h.row) (by simp)).trans h.row, h.len, fun j a xs h1 h2 => by obtain ⟨r1, r2, r3⟩ := h.rows j a xs h1 h2; exact ⟨(hg.block _ (row_lt r1) (by simp)).trans r1, r2, r3⟩, h.up⟩
theorem ImgAt.off {w w' : World} {lo g size : Nat} {R : List (List Nat)} {hs : List Nat} {S : Nat → Prop} (h : ImgAt w lo g size R hs) (hk : Kept w w' S) (hg : ¬ S g) (hr : ∀ a ∈ hs, ¬ S a) : ImgAt w' lo g size R hs :=
  ⟨hk.at h.row hg, h.len, fun j a xs h1 h2 => by obtain ⟨r1, r2, r3⟩ := h.rows j a xs h1 h2; exact ⟨hk.at r1 (hr a (List.mem_of_getElem? h1)), r2, r3⟩, h.up⟩
theorem ImgAt.rowsAt {w : World} {lo g size : Nat} {R : List (List Nat)} {hs : List Nat} (h : ImgAt w lo g size R hs) (hsz : size ≤ 4096) : RowsAt w (some ⟨g, 0, none⟩) R := by
  intro j xs hj
  have hlt : j < hs.length := by rw [h.len]; exact (List.getElem?_eq_some_iff.1 hj).1
  obtain ⟨r1, r2, _⟩ := h.rows j hs[j] xs (List.getElem?_eq_getElem hlt) hj
  refine ⟨g, 0, some ⟨hs[j], 0, none⟩, size, rfl, ?_, at_row r1, by omega⟩
  rw [Nat.zero_add, cell_row h.row, slv, List.getElem?_map, List.getElem?_eq_getElem hlt, r2]
  rfl
theorem rowI_set (size n j : Nat) (hs : List Nat) (a : Nat) (hl : hs.length = j) (hj : j < n) : (slv size hs ++ nils (n - j)).set j (bsl a size) = slv size (hs ++ [a]) ++ nils (n - (j + 1)) := by
  have e : n - j = (n - (j + 1)) + 1 := by omega
  have hl' : (slv size hs).length = j := by simp [slv, hl]
  rw [List.set_append, hl', if_neg (by omega), Nat.sub_self, e, nils, List.replicate_succ, List.set_cons_zero, slv, slv, List.map_append, List.append_assoc]
  rfl
theorem rowI_get (size n j : Nat) (hs : List Nat) (hl : hs.length = j) (hj : j < n) : (slv size hs ++ nils (n - j))[j]? = some (.slice none 0 0) := by
  have hl' : (slv size hs).length = j := by simp [slv, hl]
  rw [List.getElem?_append_right (by omega), hl', Nat.sub_self, nils, List.getElem?_replicate, if_pos (by omega)]

set_option maxRecDepth 20000 in
set_option maxHeartbeats 400000 in
theorem image_none (p : Option Addr) (w : World) (h : NoDisk w p) : Calls Try.prog 24 #[.pointer p] w fun e w' => e = .returned (.slice (some ⟨w.heap.size, 0, none⟩) 0 0) ∧ w.grownBy w' none := by
  have H := hide (sectors_none p w h)
  have hmk : (Instr.makeSlice 54 (.int .i64 0) (.int .i64 0)).run Try.prog w = .ok (.slice (some ⟨w.heap.size, 0, none⟩) 0 0) (w.alloc (.cells #[] 22)) := make_rows 0 (by omega) w
  clear h
  go_enter Try.func24, Try.ntmps24
  go_wp2_with fail
  refine H.out.mono ?_
  rintro e w' ⟨rfl, rfl⟩
  go_wp2
  go_loopg [10] 0 (fun q i wr => i = .int .i64 0 ∧ Hid (w'.grownBy wr none))
  case atStart => exact ⟨rfl, World.grownBy_alloc w' _ none⟩
  case round =>
    obtain ⟨rfl, HG⟩ := hrel
    go_wp2
    go_ret
    exact ⟨rfl, HG.out⟩

section
variable {w : World} {k : Dk} {n size : Nat} {D : List Nat} {W : List Wt}
set_option maxRecDepth 20000 in
set_option maxHeartbeats 4000000 in
theorem image_any (h : DiskAt w k n size D W) : Calls Try.prog 24 #[.pointer (some ⟨k.d, 0, none⟩)] w fun e w' => ∃ hs, e = .returned (.slice (some ⟨w.heap.size, 0, none⟩) n n) ∧ ImgAt w' w.heap.size w.heap.size size (secs n size D) hs ∧ w.grownBy w' none := by
  have H := hide (sectors_any h)
  have HM := hide (fun q => make_rows n h.shape.n1 (w.drewN q))
  have HD := hide h
  have hn1 := h.shape.n1
  clear h
  go_enter Try.func24, Try.ntmps24
  go_wp2_with fail
  refine H.out.mono ?_
  rintro e w' ⟨rfl, q, rfl⟩
  have hmk := HM.out q
  have HW : Hid (w.grownBy (w.drewN q) none ∧ (w.drewN q).heap.size = w.heap.size) := ⟨grown_drewN _ _ _, rfl⟩
  clear HM H
  generalize w.drewN q = wq at *
  rw [HW.out.2] at hmk
  go_wp2
  go_loopg [10] n (fun q i wr => ∃ j : Nat, q + j = n ∧ i = .int .i64 j ∧ Hid (∃ hs, hs.length = j ∧ wr.heap[w.heap.size]? = some (.cells (slv size hs ++ nils (n - j)).toArray 22 (0, 0)) ∧
      (∀ (i a : Nat), hs[i]? = some a → wr.heap[a]? = some (.cells (bv (secOf size D i)).toArray 5 (0, 0)) ∧ w.heap.size < a) ∧ (∀ (i j a b : Nat), hs[i]? = some a → hs[j]? = some b → i < j → a < b) ∧ w.grownBy wr none))
  case atStart => exact ⟨0, by omega, rfl, hide ⟨[], rfl, by rw [← HW.out.2]; exact heap_alloc_new wq _, by simp, by simp, grown_trans HW.out.1 (World.grownBy_alloc wq _ none)⟩⟩
  case round =>
    obtain ⟨j, hkj, rfl, HR⟩ := hrel
    by_cases hk : 0 < gk
    · have hj : j < n := by omega
      have HR' := hide HR.out
      obtain ⟨hs, hl, r1, r2, r3, r4⟩ := HR.out
      have D1 := HD.out.grown r4
      have HS := hide (sector_any D1 j hj)
      have HC := hide (fun q => copied_any (some ⟨k.db, j * size, none⟩) size (n * size - j * size) (secOf size D j) (wr.drewN q) (at_sector (D1.grown (grown_drewN _ q _)) j) (secOf_length HD.out.len hj) (by have := HD.out.shape.s1; omega))
      have HX := hide (And.intro hl (And.intro r1 (And.intro r2 (And.intro r3 r4))))
      have h1 : (0 : Int) ≤ (j : Int) := by omega
      have h2 : (j : Int) < (n : Int) := by omega
      generalize n * size - j * size = cc at *
      generalize j * size = off at *
      clear hl r1 r2 r3 r4 D1 HR HR' hmk
      go_wp2_with fail
      refine HS.out.mono ?_
      rintro e w2 ⟨rfl, q2, rfl⟩
      go_wp2_with fail
      refine (HC.out q2).mono ?_
      rintro e w3 ⟨rfl, a3, g3⟩
      have e3 : w3.heap[w.heap.size]? = some (.cells (slv size hs ++ nils (n - j)).toArray 22 (0, 0)) := (g3.block _ (row_lt (show (wr.drewN q2).heap[w.heap.size]? = _ from HX.out.2.1)) (by simp)).trans HX.out.2.1
      have c3 : w3.cell? ⟨w.heap.size, j, none⟩ = some (.slice none 0 0) := by rw [cell_row e3]; exact rowI_get size n j hs HX.out.1 hj
      have f3 : w3.frozen? ⟨w.heap.size, j, none⟩ = false := free_row e3 _
      have H3 := hide (And.intro a3 (And.intro g3 e3))
      clear a3 g3 e3
      go_wp2
      go_roundg (gk - 1)
      case measure => omega
      case rel =>
        obtain ⟨a3, g3, e3⟩ := H3.out
        obtain ⟨hl, r1, r2, r3, r4⟩ := HX.out
        have g3' : wr.grownBy w3 none := grown_trans (grown_drewN _ _ _) g3
        have hsz : w.heap.size < wr.heap.size := row_lt r1
        refine ⟨j + 1, by omega, by go_num, hide ⟨hs ++ [wr.heap.size], by simp [hl], ?_, ?_, ?_, ?_⟩⟩
        · rw [row_setCell e3]
          exact congrArg (fun l => some (Obj.cells (List.toArray l) 22 (0, 0))) (rowI_set size n j hs wr.heap.size hl hj)
        · intro i a hi
          by_cases hij : i < hs.length
          · rw [List.getElem?_append_left hij] at hi
            obtain ⟨s1, s2⟩ := r2 i a hi
            exact ⟨(Below.heap_setCell _ _ _ _ (show a ≠ w.heap.size by omega)).trans ((g3'.block _ (row_lt s1) (by simp)).trans s1), s2⟩
          · have hlt := (List.getElem?_eq_some_iff.1 hi).1
            have hij2 : i = j := by simp at hlt; omega
            subst hij2
            rw [List.getElem?_append_right (by omega), hl, Nat.sub_self] at hi
            simp at hi
            subst hi
            exact ⟨(Below.heap_setCell _ _ _ _ (show wr.heap.size ≠ w.heap.size by omega)).trans a3, hsz⟩
        · intro i i' a b hi hi' hlt
          have hlen : i' < (hs ++ [wr.heap.size]).length := (List.getElem?_eq_some_iff.1 hi').1
          simp at hlen
          rw [List.getElem?_append_left (by omega)] at hi
          by_cases hij : i' < hs.length
          · rw [List.getElem?_append_left hij] at hi'; exact r3 i i' a b hi hi' hlt
          · rw [List.getElem?_append_right (by omega), show i' - hs.length = 0 by omega] at hi'
            simp at hi'
            subst hi'
            exact row_lt (r2 i a hi).1
        · exact grown_then (grown_trans r4 g3') (grown_setCell w3 w.heap.size j _) (fun i e => by cases e; exact Or.inl (Nat.le_refl _))
    · have hj : j = n := by omega
      subst hj
      go_wp2
      go_ret
      obtain ⟨hs, hl, r1, r2, r3, r4⟩ := HR.out
      refine ⟨hs, rfl, ⟨?_, by rw [secs_length, hl], ?_, r3⟩, r4⟩
      · simpa [nils] using r1
      · intro i a xs hi hx
        have hlt : i < j := by have := (List.getElem?_eq_some_iff.1 hi).1; omega
        rw [secs_get _ _ _ _ hlt] at hx
        obtain rfl := Option.some.inj hx
        exact ⟨(r2 i a hi).1, secOf_length HD.out.len hlt, Nat.le_of_lt (r2 i a hi).2⟩
end
end Go.Proofs.Ytaopcidkgcekdaa
