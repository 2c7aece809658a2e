/- The contracts of the document's own set (gangwayref02): New, set, Has, seek, Count, All. -/
import Derived.Test.YtajdgkbeenalkaaDoorPick
namespace Go.Proofs.YtajdgkbeenalkaaDoor
open Go.RowKit Go.Shelf
attribute [local go_sem ↓] Go.wp_at_zero Go.wp_at_succ

/-- The document's set L at block d, its bools in block r; t: it is there. -/
def RefAt (w : World) (d r : Nat) (t : Bool) (L : List Bool) : Prop :=
  ∃ (ao : Option Addr) (cap : Nat), w.heap[d]? = some (.cells #[.bool t, .slice ao L.length cap] 33 (0, 0)) ∧ L.length ≤ 65536 ∧ ((ao = none ∧ L = [] ∧ cap = 0) ∨
    ∃ cur : List Value, ao = some ⟨r, 0, none⟩ ∧ w.heap[r]? = some (.cells cur.toArray 4 (0, 0)) ∧ cur.take L.length = L.map Value.bool ∧ cur.length = cap ∧ L.length ≤ cap ∧ cap ≤ maxLen)
theorem RefAt.kept {w w' : World} {d r : Nat} {t : Bool} {L : List Bool} {row : Option Nat} (h : RefAt w d r t L) (hg : w.grownBy w' row) (hd : row ≠ some d) (hr : row ≠ some r) : RefAt w' d r t L := by
  obtain ⟨ao, cap, h1, h2, h3⟩ := h
  refine ⟨ao, cap, (hg.block d (row_lt h1) (fun e => hd e.symm)).trans h1, h2, ?_⟩
  rcases h3 with h3 | ⟨cur, h4, h5, h6⟩
  · exact Or.inl h3
  · exact Or.inr ⟨cur, h4, (hg.block r (row_lt h5) (fun e => hr e.symm)).trans h5, h6⟩
theorem RefAt.grown {w w' : World} {d r : Nat} {t : Bool} {L : List Bool} (h : RefAt w d r t L) (hg : w.grownBy w' none) : RefAt w' d r t L := h.kept hg (by simp) (by simp)
theorem RefAt.there {w : World} {d r : Nat} {t : Bool} {L : List Bool} (h : RefAt w d r t L) : w.cell? ⟨d, 0, none⟩ = some (.bool t) := by
  obtain ⟨ao, cap, h1, h2, h3⟩ := h; simp [World.cell?, h1]
theorem RefAt.small {w : World} {d r : Nat} {t : Bool} {L : List Bool} (h : RefAt w d r t L) : L.length ≤ 65536 := by
  obtain ⟨ao, cap, h1, h2, h3⟩ := h; exact h2
theorem RefAt.lt {w : World} {d r : Nat} {t : Bool} {L : List Bool} (h : RefAt w d r t L) : d < w.heap.size := by
  obtain ⟨ao, cap, h1, h2, h3⟩ := h; exact row_lt h1
theorem RefAt.bools {w : World} {d r : Nat} {t : Bool} {L : List Bool} (h : RefAt w d r t L) : ∃ ao cap, w.cell? ⟨d, 1, none⟩ = some (.slice ao L.length cap) ∧ (ao = none → L.length = 0 ∧ cap = 0) ∧ AtV w ao (L.map Value.bool) := by
  obtain ⟨ao, cap, h1, h2, h3⟩ := h
  refine ⟨ao, cap, by simp [World.cell?, h1], ?_, ?_⟩
  · rcases h3 with ⟨_, h, h'⟩ | ⟨cur, h4, _⟩
    · intro _; rw [h]; exact ⟨rfl, h'⟩
    · intro e; rw [e] at h4; cases h4
  · rcases h3 with ⟨_, rfl, _⟩ | ⟨cur, h4, h5, h6, h7, h8⟩
    · exact AtV.nil _ _
    · intro j u hu
      refine ⟨_, h4, ?_⟩
      have hj : j < L.length := by have := (List.getElem?_eq_some_iff.1 hu).1; simpa using this
      rw [Addr.add_lit, Nat.zero_add, cell_row h5, ← List.getElem?_take_of_lt hj, h6]
      exact hu
theorem RefAt.bool {w : World} {ao : Option Addr} {L : List Bool} (h : AtV w ao (L.map Value.bool)) {j : Nat} (hj : j < L.length) : ∃ a, ao = some a ∧ w.cell? (a.add j) = some (.bool (L.getD j false)) := by
  obtain ⟨a, ha, hc⟩ := h j (.bool (L.getD j false)) (by simp [List.getD_eq_getElem?_getD, hj])
  exact ⟨a, ha, hc⟩

theorem Tryd.info4 : (Tryd.prog.info? 4).map (fun i => (i.zero, i.size, i.bytes)) = some (some (.bool false), 1, 1) := by kernel_rfl
theorem made_bools (n : Nat) : madeCells #[.bool false] n = ((List.replicate n false).map Value.bool).toArray := by
  apply Array.ext'
  rw [toList_madeCells_one]
  simp
theorem make_bools (n : Nat) (h : n ≤ 281474976710656) (w : World) : (Instr.makeSlice 31 (.int .i64 (n : Int)) (.int .i64 (n : Int))).run Tryd.prog w = .ok (.slice (some ⟨w.heap.size, 0, none⟩) n n) (w.alloc (.cells ((List.replicate n false).map Value.bool).toArray 4)) := by
  rw [run_make_row' (P := Tryd.prog) 31 4 (.bool false) 1 Tryd.underlying31 Tryd.info4 rfl .i64 .i64 n (by omega) (by omega) w, made_bools]

theorem ref_zero (w : World) : RefAt (w.alloc (.cells #[.bool false, .slice none 0 0] 33)) w.heap.size 0 false [] :=
  ⟨none, 0, heap_alloc_new w _, by simp, Or.inl ⟨rfl, rfl, rfl⟩⟩

set_option maxHeartbeats 400000 in
theorem rnew_bad (n : Int) (w : World) (h : n < 0 ∨ 65536 < n) :
    Calls Tryd.prog 11 #[.int .i64 n] w fun e w' => e = .returned (.tuple #[.pointer (some ⟨w.heap.size, 0, none⟩), .int .i64 2]) ∧ RefAt w' w.heap.size 0 false [] ∧ w.grownBy w' none := by
  go_enter Tryd.func11, Tryd.ntmps11
  rcases h with h | h
  · go_wp2
    go_ret2
    exact ⟨rfl, ref_zero w, World.grownBy_alloc w _ none⟩
  · have h2 : 0 ≤ n := by omega
    go_wp2
    go_ret2
    exact ⟨rfl, ref_zero w, World.grownBy_alloc w _ none⟩

set_option maxHeartbeats 400000 in
theorem rnew_any (n : Nat) (w : World) (h : n ≤ 65536) :
    Calls Tryd.prog 11 #[.int .i64 (n : Int)] w fun e w' => ∃ d r, e = .returned (.tuple #[.pointer (some ⟨d, 0, none⟩), .int .i64 0]) ∧ RefAt w' d r true (List.replicate n false) ∧ w.heap.size ≤ d ∧ w.heap.size ≤ r ∧ w.grownBy w' none := by
  have hmk := make_bools n (by omega)
  have h1 : (0 : Int) ≤ (n : Int) := by omega
  have h2 : (n : Int) ≤ 65536 := by omega
  go_enter Tryd.func11, Tryd.ntmps11
  go_wp2
  go_ret2
  refine ⟨w.heap.size + 1, w.heap.size, rfl, ?_, by omega, Nat.le_refl _, grown_trans (World.grownBy_alloc w _ _) (World.grownBy_alloc _ _ _)⟩
  have e1 := heap_alloc_new (w.alloc (.cells ((List.replicate n false).map Value.bool).toArray 4)) (Obj.cells #[.bool true, .slice (some ⟨w.heap.size, 0, none⟩) n n] 33)
  rw [World.size_alloc] at e1
  refine ⟨some ⟨w.heap.size, 0, none⟩, n, ?_, by simpa using h, Or.inr ⟨(List.replicate n false).map Value.bool, rfl, ?_, by simp, by simp, by simp, by unfold maxLen; omega⟩⟩
  · simpa using e1
  · have := (Below.heap_alloc (w.alloc (.cells ((List.replicate n false).map Value.bool).toArray 4)) (Obj.cells #[.bool true, .slice (some ⟨w.heap.size, 0, none⟩) n n] 33) w.heap.size (by simp)).trans (heap_alloc_new w _)
    simpa using this

/-- What set answers. -/
def rsetF (t : Bool) (n : Nat) (i : Int) : Int := if t then mayF n i else 1

theorem RefAt.store {w : World} {d r : Nat} {t : Bool} {L : List Bool} (h : RefAt w d r t L) {i : Nat} (hi : i < L.length) (v : Bool) : ∃ cap, w.cell? ⟨d, 1, none⟩ = some (.slice (some ⟨r, 0, none⟩) L.length cap) ∧
    w.cell? ⟨r, i, none⟩ = some (.bool (L.getD i false)) ∧ w.frozen? ⟨r, i, none⟩ = false ∧ RefAt (w.setCell ⟨r, i, none⟩ (.bool v)) d r t (L.set i v) := by
  obtain ⟨ao, cap, h1, h2, h3⟩ := h
  rcases h3 with ⟨_, rfl, _⟩ | ⟨cur, rfl, h5, h6, h7, h8⟩
  · simp at hi
  · have hne : d ≠ r := by rintro rfl; rw [h1] at h5; simp at h5
    refine ⟨cap, by simp [World.cell?, h1], ?_, free_row h5 _, ?_⟩
    · rw [cell_row h5, ← List.getElem?_take_of_lt hi, h6]; simp [List.getD_eq_getElem?_getD, hi]
    · refine ⟨_, cap, ?_, by simpa using h2, Or.inr ⟨cur.set i (.bool v), rfl, row_setCell h5 _ _, ?_, by simpa using h7, by simpa using h8⟩⟩
      · rw [Below.heap_setCell _ _ _ _ (by simpa using hne), h1]; simp
      · rw [List.length_set, List.take_set, h6, List.map_set]

set_option maxHeartbeats 400000 in
theorem rset_bad (d r : Nat) (t : Bool) (L : List Bool) (i : Int) (v : Bool) (w : World) (h : RefAt w d r t L) (hb : t = false ∨ ¬ (0 ≤ i ∧ i < (L.length : Int))) :
    Calls Tryd.prog 59 #[.pointer (some ⟨d, 0, none⟩), .int .i64 i, .bool v] w fun e w' => e = .returned (.int .i64 (rsetF t L.length i)) ∧ w' = w := by
  have ht := h.there
  obtain ⟨ao, cap, hc, _, _⟩ := h.bools
  clear h
  cases t
  · go_enter Tryd.func59, Tryd.ntmps59
    go_wp2
    go_ret
    exact ⟨rfl, rfl⟩
  · have hb2 : ¬ (0 ≤ i ∧ i < (L.length : Int)) := by simpa using hb
    have e2 : rsetF true L.length i = 2 := by simp only [rsetF, mayF]; rw [if_neg hb2]; rfl
    rw [e2]
    clear e2
    generalize L.length = n at *
    by_cases h2 : i < 0
    · clear hb hb2
      go_enter Tryd.func59, Tryd.ntmps59
      go_wp2
      go_ret
      exact ⟨rfl, rfl⟩
    · have h3 : (n : Int) ≤ i := by omega
      have h4 : 0 ≤ i := by omega
      clear hb hb2 h2
      go_enter Tryd.func59, Tryd.ntmps59
      go_wp2
      go_ret
      exact ⟨rfl, rfl⟩

set_option maxHeartbeats 400000 in
theorem rset_any (d r : Nat) (L : List Bool) (i : Nat) (v : Bool) (w : World) (h : RefAt w d r true L) (hi : i < L.length) :
    Calls Tryd.prog 59 #[.pointer (some ⟨d, 0, none⟩), .int .i64 (i : Int), .bool v] w fun e w' => e = .returned (.int .i64 0) ∧ RefAt w' d r true (L.set i v) ∧ w.grownBy w' (some r) := by
  have ht := h.there
  obtain ⟨cap, hc, hcell, hfr, hst⟩ := h.store hi v
  have HS := hide hst
  have h1 : (0 : Int) ≤ (i : Int) := by omega
  have h2 : (i : Int) < (L.length : Int) := by omega
  clear h hst
  generalize L.getD i false = u at *
  go_enter Tryd.func59, Tryd.ntmps59
  go_wp2
  go_ret
  exact ⟨rfl, HS.out, grown_setCell _ _ _ _⟩

/-- Put and Drop, of the document's set. -/
def setF (t : Bool) (L : List Bool) (i : Int) (v : Bool) : List Bool := if t = true ∧ 0 ≤ i ∧ i < (L.length : Int) then L.set i.toNat v else L
theorem setF_length (t : Bool) (L : List Bool) (i : Int) (v : Bool) : (setF t L i v).length = L.length := by unfold setF; split <;> simp
theorem rset_int (d r : Nat) (t : Bool) (L : List Bool) (i : Int) (v : Bool) (w : World) (h : RefAt w d r t L) :
    Calls Tryd.prog 59 #[.pointer (some ⟨d, 0, none⟩), .int .i64 i, .bool v] w fun e w' => e = .returned (.int .i64 (rsetF t L.length i)) ∧ RefAt w' d r t (setF t L i v) ∧ w.grownBy w' (some r) := by
  by_cases hb : t = true ∧ 0 ≤ i ∧ i < (L.length : Int)
  · obtain ⟨rfl, h1, h2⟩ := hb
    obtain ⟨k, rfl⟩ := Int.eq_ofNat_of_zero_le h1
    refine (rset_any d r L k v w h (by omega)).mono ?_
    rintro e w' ⟨rfl, h3, h4⟩
    refine ⟨by show _ = Ending.returned (.int .i64 (mayF L.length (k : Int))); simp only [mayF]; rw [if_pos ⟨h1, h2⟩], ?_, h4⟩
    unfold setF
    rw [if_pos ⟨rfl, h1, h2⟩]
    exact h3
  · refine (rset_bad d r t L i v w h ?_).mono ?_
    · cases t
      · exact Or.inl rfl
      · exact Or.inr (fun h => hb ⟨rfl, h⟩)
    · rintro e w' ⟨rfl, rfl⟩
      refine ⟨rfl, ?_, grown_refl _ _⟩
      unfold setF
      rw [if_neg hb]
      exact h

set_option maxHeartbeats 400000 in
theorem rput_any (d r : Nat) (t : Bool) (L : List Bool) (i : Int) (w : World) (h : RefAt w d r t L) :
    Calls Tryd.prog 37 #[.pointer (some ⟨d, 0, none⟩), .int .i64 i] w fun e w' => e = .returned (.int .i64 (rsetF t L.length i)) ∧ RefAt w' d r t (setF t L i true) ∧ w.grownBy w' (some r) := by
  have H := hide (rset_int d r t L i true w h)
  clear h
  go_enter Tryd.func37, Tryd.ntmps37
  go_wp2_with fail
  refine H.out.mono ?_
  rintro e w' ⟨rfl, h1, h2⟩
  have HR := hide (And.intro h1 h2)
  clear h1 h2
  go_wp2
  go_ret
  exact ⟨rfl, HR.out.1, HR.out.2⟩
set_option maxHeartbeats 400000 in
theorem rdrop_any (d r : Nat) (t : Bool) (L : List Bool) (i : Int) (w : World) (h : RefAt w d r t L) :
    Calls Tryd.prog 38 #[.pointer (some ⟨d, 0, none⟩), .int .i64 i] w fun e w' => e = .returned (.int .i64 (rsetF t L.length i)) ∧ RefAt w' d r t (setF t L i false) ∧ w.grownBy w' (some r) := by
  have H := hide (rset_int d r t L i false w h)
  clear h
  go_enter Tryd.func38, Tryd.ntmps38
  go_wp2_with fail
  refine H.out.mono ?_
  rintro e w' ⟨rfl, h1, h2⟩
  have HR := hide (And.intro h1 h2)
  clear h1 h2
  go_wp2
  go_ret
  exact ⟨rfl, HR.out.1, HR.out.2⟩

set_option maxHeartbeats 400000 in
theorem rhas_any (d r : Nat) (t : Bool) (L : List Bool) (i : Int) (w : World) (h : RefAt w d r t L) :
    Calls Tryd.prog 39 #[.pointer (some ⟨d, 0, none⟩), .int .i64 i] w fun e w' => e = .returned (.bool (decide (0 ≤ i) && L.getD i.toNat false)) ∧ w' = w := by
  obtain ⟨ao, cap, hc, _, hat⟩ := h.bools
  by_cases hi : 0 ≤ i
  · obtain ⟨k, rfl⟩ := Int.eq_ofNat_of_zero_le hi
    by_cases hk : k < L.length
    · obtain ⟨a, rfl, hcell⟩ := RefAt.bool hat hk
      have e : (decide (0 ≤ (k : Int)) && L.getD (k : Int).toNat false) = L.getD k false := by simp
      rw [e]
      have h2 : (k : Int) < (L.length : Int) := by omega
      clear e h hat
      generalize L.getD k false = u at *
      go_enter Tryd.func39, Tryd.ntmps39
      go_wp2
      go_ret
      exact ⟨rfl, rfl⟩
    · have e : (decide (0 ≤ (k : Int)) && L.getD (k : Int).toNat false) = false := by rw [Int.toNat_natCast, getD_out L k (by omega)]; simp
      rw [e]
      have h2 : (L.length : Int) ≤ (k : Int) := by omega
      clear e h hat
      go_enter Tryd.func39, Tryd.ntmps39
      go_wp2
      go_ret
      exact ⟨rfl, rfl⟩
  · have e : (decide (0 ≤ i) && L.getD i.toNat false) = false := by simp [hi]
    rw [e]
    have h2 : i < 0 := by omega
    clear e h hat hi
    go_enter Tryd.func39, Tryd.ntmps39
    go_wp2
    go_ret
    exact ⟨rfl, rfl⟩

set_option maxHeartbeats 1000000 in
theorem rseek_any (d r : Nat) (t : Bool) (L : List Bool) (i : Int) (v : Bool) (w : World) (h : RefAt w d r t L) :
    Calls Tryd.prog 60 #[.pointer (some ⟨d, 0, none⟩), .int .i64 i, .bool v] w fun e w' => ∃ q, e = .returned (.int .i64 q) ∧ Seek L v i.toNat q ∧ w' = w := by
  obtain ⟨ao, cap, hc, _, hat⟩ := h.bools
  have hsm := h.small
  have HA := hide hat
  clear h hat
  go_enter Tryd.func60, Tryd.ntmps60
  go_wp2
  all_goals
    go_loopg [7] (L.length - i.toNat) (fun k I wr => ∃ j : Nat, k = L.length - j ∧ i.toNat ≤ j ∧ I = .int .i64 (j : Int) ∧ Hid (∀ q, i.toNat ≤ q → q < j → L.getD q false ≠ v) ∧ wr = w)
    case atStart => exact ⟨i.toNat, rfl, Nat.le_refl _, by congr 1; omega, hide (fun q h1 h2 => by omega), rfl⟩
    case round =>
      obtain ⟨j, hkj, hij, rfl, hno, rfl⟩ := hrel
      by_cases hj : j < L.length
      · obtain ⟨a, rfl, hcell⟩ := RefAt.bool HA.out hj
        have h1 : (0 : Int) ≤ (j : Int) := by omega
        have h2 : (j : Int) < (L.length : Int) := by omega
        by_cases hv : L.getD j false = v
        · have HS : Hid (Seek L v i.toNat (j : Int)) := Or.inr ⟨j, rfl, hij, hj, hv, hno.out⟩
          rw [hv] at hcell
          clear hv
          go_wp2
          go_ret
          exact ⟨_, rfl, HS.out, rfl⟩
        · have HNO : Hid (∀ q, i.toNat ≤ q → q < j + 1 → L.getD q false ≠ v) := by
            intro q h3 h4
            by_cases e : q = j
            · subst e; exact hv
            · exact hno.out q h3 (by omega)
          have hvb : (L.getD j false == v) = false := by simpa using hv
          generalize L.getD j false = u at *
          clear hv
          go_wp2
          go_roundg (L.length - (j + 1))
          case measure => omega
          case rel => exact ⟨j + 1, rfl, by omega, by go_num, HNO, rfl⟩
      · have h2 : (L.length : Int) ≤ (j : Int) := by omega
        have HS : Hid (Seek L v i.toNat (-1)) := Or.inl ⟨rfl, fun q h3 h4 => hno.out q h3 (by omega)⟩
        go_wp2
        go_ret
        exact ⟨_, rfl, HS.out, rfl⟩

end Go.Proofs.YtajdgkbeenalkaaDoor
