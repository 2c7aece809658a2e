/- Texts joined: IxIa, IxIc, IxId. -/
import Derived.Test.YtcbiloomnkbalaaGreatDoorJoAc
import Derived.WalkMore
/- An index in memory; small calls. -/
namespace Go.Proofs.YtcbiloomnkbalaaGreatDoor.Ix
open Go.RowKit
attribute [local go_sem ↓] Go.wp_at_zero Go.wp_at_succ
def idN (o : Option (Nat × Int)) : Nat := (o.map (·.1)).getD 0
def vlN (o : Option (Nat × Int)) : Int := (o.map (·.2)).getD 0
def scell (o : Option (Nat × Int)) : List Value := [.bool o.isSome, .int .u32 (idN o : Int), .int .i64 (vlN o)]
def scells (S : List (Option (Nat × Int))) : List Value := S.flatMap scell
theorem scells_length (S : List (Option (Nat × Int))) : (scells S).length = S.length * 3 := by
  induction S with
  | nil => rfl
  | cons x r ih => simp [scells, scell] at ih ⊢; omega
theorem scells_get {S : List (Option (Nat × Int))} {i : Nat} (h : i < S.length) : (scells S)[i * 3]? = some (.bool (sl S i).isSome) ∧ (scells S)[i * 3 + 1]? = some (.int .u32 (idN (sl S i) : Int)) ∧ (scells S)[i * 3 + 2]? = some (.int .i64 (vlN (sl S i))) := by
  induction S generalizing i with
  | nil => simp at h
  | cons y r ih =>
    have e : scells (y :: r) = .bool y.isSome :: .int .u32 (idN y : Int) :: .int .i64 (vlN y) :: scells r := by simp [scells, scell]
    cases i with
    | zero => simp [e, sl]
    | succ i =>
      have := ih (i := i) (by simpa using h)
      have e2 : sl (y :: r) (i + 1) = sl r i := by simp [sl]
      rw [e, e2, show (i + 1) * 3 = i * 3 + 3 by omega, show i * 3 + 3 + 1 = (i * 3 + 1) + 3 by omega, show i * 3 + 3 + 2 = (i * 3 + 2) + 3 by omega]
      simpa using this
theorem scells_set {S : List (Option (Nat × Int))} {i : Nat} (y : Option (Nat × Int)) : scells (S.set i y) = (((scells S).set (i * 3) (.bool y.isSome)).set (i * 3 + 1) (.int .u32 (idN y : Int))).set (i * 3 + 2) (.int .i64 (vlN y)) := by
  induction S generalizing i with
  | nil => simp [scells]
  | cons z r ih =>
    have e : ∀ z, scells (z :: r) = .bool z.isSome :: .int .u32 (idN z : Int) :: .int .i64 (vlN z) :: scells r := fun z => by simp [scells, scell]
    cases i with
    | zero => simp [e]
    | succ i =>
      have e2 : scells (z :: r.set i y) = .bool z.isSome :: .int .u32 (idN z : Int) :: .int .i64 (vlN z) :: scells (r.set i y) := by simp [scells, scell]
      rw [List.set_cons_succ, e2, ih, e, show (i + 1) * 3 = i * 3 + 3 by omega, show i * 3 + 3 + 1 = (i * 3 + 1) + 3 by omega, show i * 3 + 3 + 2 = (i * 3 + 2) + 3 by omega]
      rfl
/-- The index's own cells. -/
def hdc (x g n m c st : Nat) : List Value := [.pointer (some ⟨x, 0, none⟩), .int .i64 (m : Int), .int .i64 (c : Int), .int .i64 (st : Int), .slice (some ⟨g, 0, none⟩) n n]
/-- On which slot the search of an id begins. -/
def hs (n k : Nat) : Nat := Mx.hash k % n
structure IxR (w : World) (x g n m c st : Nat) (S : List (Option (Nat × Int))) : Prop where
  head : w.heap[x]? = some (.cells (hdc x g n m c st).toArray 126 (0, 0))
  row : w.heap[g]? = some (.cells (scells S).toArray 148 (0, 0))
  len : S.length = n
  pos : 0 < n
  most : n ≤ 8192
section
variable {w w' : World} {x g n m c st : Nat} {S : List (Option (Nat × Int))}
theorem IxR.ne (h : IxR w x g n m c st S) : x ≠ g := fun e => by have := h.row; rw [← e, h.head] at this; simp at this
theorem IxR.cells (h : IxR w x g n m c st S) : w.cell? ⟨x, 0, none⟩ = some (.pointer (some ⟨x, 0, none⟩)) ∧ w.cell? ⟨x, 1, none⟩ = some (.int .i64 (m : Int)) ∧ w.cell? ⟨x, 2, none⟩ = some (.int .i64 (c : Int)) ∧ w.cell? ⟨x, 3, none⟩ = some (.int .i64 (st : Int)) ∧ w.cell? ⟨x, 4, none⟩ = some (.slice (some ⟨g, 0, none⟩) n n) :=
  ⟨cell_row h.head 0, cell_row h.head 1, cell_row h.head 2, cell_row h.head 3, cell_row h.head 4⟩
theorem IxR.slot (h : IxR w x g n m c st S) {i : Nat} (hi : i < n) : w.cell? ⟨g, i * 3, none⟩ = some (.bool (sl S i).isSome) ∧ w.cell? ⟨g, i * 3 + 1, none⟩ = some (.int .u32 (idN (sl S i) : Int)) ∧ w.cell? ⟨g, i * 3 + 2, none⟩ = some (.int .i64 (vlN (sl S i))) := by
  obtain ⟨h1, h2, h3⟩ := scells_get (S := S) (i := i) (by rw [h.len]; exact hi)
  rw [cell_row h.row, cell_row h.row, cell_row h.row]
  exact ⟨h1, h2, h3⟩
theorem IxR.far {X : Nat → Prop} (h : IxR w x g n m c st S) (k : Kept w w' X) (hx : ¬ X x) (hg : ¬ X g) : IxR w' x g n m c st S := ⟨k.at h.head hx, k.at h.row hg, h.len, h.pos, h.most⟩
theorem IxR.then (h : IxR w x g n m c st S) (k : w.grownBy w' none) : IxR w' x g n m c st S := h.far (Kept.new k (fun _ => False)) (fun e => e) (fun e => e)
/-- Steps are written. -/
theorem IxR.step (h : IxR w x g n m c st S) (s : Nat) : IxR (w.setCell ⟨x, 3, none⟩ (.int .i64 (s : Int))) x g n m c s S := by
  have k := kept_setCell w x 3 (.int .i64 (s : Int))
  exact ⟨row_setCell h.head 3 _, k.at h.row (fun e => h.ne e.symm), h.len, h.pos, h.most⟩
theorem IxR.count (h : IxR w x g n m c st S) (s : Nat) : IxR (w.setCell ⟨x, 2, none⟩ (.int .i64 (s : Int))) x g n m s st S := by
  have k := kept_setCell w x 2 (.int .i64 (s : Int))
  exact ⟨row_setCell h.head 2 _, k.at h.row (fun e => h.ne e.symm), h.len, h.pos, h.most⟩
theorem hs_lt (hn : 0 < n) (k : Nat) : hs n k < n := Nat.mod_lt _ hn
set_option maxRecDepth 20000 in
theorem none_at (h : IxR w x g n m c st S) : Calls Tryz.prog 83 #[.pointer (some ⟨x, 0, none⟩)] w fun e w' => e = .returned (.bool false) ∧ w' = w := by
  obtain ⟨c0, -, -, -, -⟩ := h.cells
  have hsome : (Tryz.prog.info? 126).isSome = true := by kernel_rfl
  obtain ⟨j, hj⟩ := Option.isSome_iff_exists.1 hsome
  have hs := Go.Lib.run_neq_ptr_same (P := Tryz.prog) (tp := 62) (te := 126) w ⟨x, 0, none⟩ Tryz.underlying62 hj
  clear h hsome hj
  go_enter Tryz.func83, Tryz.ntmps83
  go_wp2
  go_ret
  exact ⟨rfl, rfl⟩
theorem len_at (h : IxR w x g n m c st S) : Calls Tryz.prog 53 #[.pointer (some ⟨x, 0, none⟩)] w fun e w' => e = .returned (.int .i64 (c : Int)) ∧ w' = w := by
  obtain ⟨-, c1, c2, c3, c4⟩ := h.cells
  have hn := none_at h
  clear h
  go_enter Tryz.func53, Tryz.ntmps53
  go_wp2_with (go_at_call 83; refine hn.mono ?_; rintro e w1 ⟨rfl, rfl⟩)
  go_wp2
  go_ret
  exact ⟨rfl, rfl⟩
theorem home_at (h : IxR w x g n m c st S) (k : Nat) (hk : k < 4294967296) : Calls Tryz.prog 112 #[.pointer (some ⟨x, 0, none⟩), .int .u32 (k : Int)] w fun e w' => e = .returned (.int .i64 (hs n k : Int)) ∧ w.grownBy w' none := by
  obtain ⟨-, -, -, -, c4⟩ := h.cells
  have hh := fun W => hash_any k (by omega) W
  have hl := Mx.hash_lt k
  have e1 : ((Mx.hash k : Nat) : Int).tmod ((n : Nat) : Int) = ((hs n k : Nat) : Int) := by rw [Int.tmod_eq_emod_of_nonneg (by omega)]; rfl
  have hm := hs_lt h.pos k
  have h0 := h.pos
  have hn := h.most
  clear h
  generalize hs n k = r at *
  generalize Mx.hash k = q at *
  have w1 : IntKind.u64.wrap ((n : Nat) : Int) = (n : Int) := by rw [wrap_u64]; omega
  have w2 : IntKind.i64.wrap ((r : Nat) : Int) = (r : Int) := by rw [IntKind.wrap_i64]; omega
  have w3 : IntKind.u64.wrap ((k : Nat) : Int) = (k : Int) := by rw [wrap_u64]; omega
  have w4 : IntKind.u64.wrap ((r : Nat) : Int) = (r : Int) := by rw [wrap_u64]; omega
  have nz : ((n : Int) == 0) = false := by simp; omega
  go_enter Tryz.func112, Tryz.ntmps112
  go_wp2
  go_quiet ((go_at_call 122; exact Calls.quiet_of_same (hh _)))
  go_wp2
  go_ret
  exact ⟨rfl, grown_drewN _ _ _⟩
theorem behind_at (h : IxR w x g n m c st S) (a : Nat) (ha : a < n) : Calls Tryz.prog 134 #[.pointer (some ⟨x, 0, none⟩), .int .i64 (a : Int)] w fun e w' => e = .returned (.int .i64 (bh n a : Int)) ∧ w' = w := by
  obtain ⟨-, -, -, -, c4⟩ := h.cells
  have e1 : ((a : Int) + 1).tmod (n : Int) = ((bh n a : Nat) : Int) := by rw [Int.tmod_eq_emod_of_nonneg (by omega)]; exact bh_int ha
  have h0 := h.pos
  have hn := h.most
  have hb := bh_lt ha
  clear h
  generalize bh n a = r at *
  have nz : ((n : Int) == 0) = false := by simp; omega
  go_enter Tryz.func134, Tryz.ntmps134
  go_wp2
  go_ret
  exact ⟨rfl, rfl⟩
theorem way_at (h : IxR w x g n m c st S) (a b : Nat) (ha : a < n) (hb : b < n) : Calls Tryz.prog 135 #[.pointer (some ⟨x, 0, none⟩), .int .i64 (a : Int), .int .i64 (b : Int)] w fun e w' => e = .returned (.int .i64 (wy n a b : Int)) ∧ w.grownBy w' none := by
  obtain ⟨-, -, -, -, c4⟩ := h.cells
  have e1 : ((b : Int) - a + n).tmod (n : Int) = ((wy n a b : Nat) : Int) := by rw [Int.tmod_eq_emod_of_nonneg (by omega)]; exact wy_int ha hb
  have h0 := h.pos
  have hn := h.most
  have hl := wy_lt ha hb
  clear h
  generalize wy n a b = r at *
  have nz : ((n : Int) == 0) = false := by simp; omega
  go_enter Tryz.func135, Tryz.ntmps135
  go_wp2
  go_quiet (fail)
  go_wp2
  go_ret
  exact ⟨rfl, grown_drewN _ _ _⟩
end
end Go.Proofs.YtcbiloomnkbalaaGreatDoor.Ix
/- How many slots; New. -/
namespace Go.Proofs.YtcbiloomnkbalaaGreatDoor.Ix
open Go.RowKit
attribute [local go_sem ↓] Go.wp_at_zero Go.wp_at_succ
theorem pow_lt14 : ∀ j, j < 14 → 2 ^ j ≤ 8192 := fun j hj => Nat.pow_le_pow_right (n := 2) (by decide) (show j ≤ 13 by omega)
theorem slotsFor_any (m : Nat) (h1 : 1 ≤ m) (h2 : m ≤ 4096) (w : World) : Calls Tryz.prog 95 #[.int .i64 (m : Int)] w fun e w' => ∃ n : Nat, e = .returned (.int .i64 (n : Int)) ∧ Sz m n ∧ w' = w := by
  go_enter Tryz.func95, Tryz.ntmps95
  go_wp2
  go_loopg [3] 13 (fun q v wr => ∃ n : Nat, v = .int .i64 (n : Int) ∧ n ≤ 8192 ∧ Hid (wr = w ∧ n = 2 ^ (13 - q) ∧ q ≤ 13 ∧ ∀ i, i < 13 - q → 2 ^ i < 2 * m))
  case atStart => exact ⟨1, rfl, by decide, rfl, rfl, by decide, fun i hi => by omega⟩
  case round =>
    obtain ⟨n, rfl, hn, HR⟩ := hrel
    have HN := hide hn
    by_cases hlt : n < 2 * m
    · have hq : 1 ≤ gk := by
        rcases Nat.eq_zero_or_pos gk with h0 | h0
        · obtain ⟨_, e, _, _⟩ := HR.out; rw [h0] at e; omega
        · exact h0
      have hlt' : ((n : Int)) < 2 * (m : Int) := by omega
      go_wp2
      go_roundg (gk - 1)
      case rel =>
        obtain ⟨e1, e2, e3, e4⟩ := HR.out
        have e5 : 13 - (gk - 1) = (13 - gk) + 1 := by omega
        refine ⟨n * 2, by simp, by rw [e2, ← Nat.pow_succ]; exact pow_lt14 _ (by omega), e1, by rw [e5, Nat.pow_succ, ← e2], by omega, fun i hi => ?_⟩
        rcases Nat.lt_or_ge i (13 - gk) with h | h
        · exact e4 i h
        · rw [show i = 13 - gk by omega, ← e2]; exact hlt
      case measure => omega
    · have hlt' : decide ((n : Int) < 2 * (m : Int)) = false := by simp; omega
      have hlt2 : ¬ ((n : Int) < 2 * (m : Int)) := by omega
      go_wp2
      go_ret
      obtain ⟨e1, e2, e3, e4⟩ := HR.out
      refine ⟨n, rfl, ⟨by omega, 13 - gk, e2, fun i hi => ?_⟩, e1⟩
      rcases Nat.lt_or_ge i (13 - gk) with h | h
      · have := e4 i h; omega
      · exact h
theorem Tryz.info148 : (Tryz.prog.info? 148).map (fun i => (i.zero, i.size, i.bytes)) = some (some (.agg #[.bool false, .int .u32 0, .int .i64 0]), 3, 24) := by kernel_rfl
theorem sl_free (n i : Nat) : sl (List.replicate n none) i = none := by
  unfold sl
  rw [List.getElem?_replicate]
  split <;> rfl
theorem made_slots (n : Nat) : madeCells #[.bool false, .int .u32 0, .int .i64 0] (n * 3) = (scells (List.replicate n none)).toArray := by
  apply Array.ext'
  apply List.ext_getElem?
  intro j
  by_cases hj : j < n * 3
  · obtain ⟨h1, h2, h3⟩ := scells_get (S := List.replicate n none) (i := j / 3) (by simp; omega)
    rw [sl_free] at h1 h2 h3
    have hm : j = j / 3 * 3 + j % 3 := by omega
    have e : (madeCells #[.bool false, .int .u32 0, .int .i64 0] (n * 3)).toList[j]? = some (#[Value.bool false, .int .u32 0, .int .i64 0][j % 3]!) := by
      simp [madeCells, hj]
    rw [e]
    have h3' : j % 3 = 0 ∨ j % 3 = 1 ∨ j % 3 = 2 := by omega
    rcases h3' with hr | hr | hr
    · rw [hr] at hm ⊢; rw [show j = j / 3 * 3 by omega]; rw [h1]; rfl
    · rw [hr] at hm ⊢; rw [hm]; rw [show (j / 3 * 3 + 1) = j / 3 * 3 + 1 from rfl, h2]; rfl
    · rw [hr] at hm ⊢; rw [hm, h3]; rfl
  · rw [List.getElem?_eq_none (by simp [size_madeCells]; omega), List.getElem?_eq_none (by simp [scells_length]; omega)]
theorem make_slots (n : Nat) (h : n ≤ 8192) (w : World) : (Instr.makeSlice 124 (.int .i64 (n : Int)) (.int .i64 (n : Int))).run Tryz.prog w = .ok (.slice (some ⟨w.heap.size, 0, none⟩) n n) (w.alloc (.cells (scells (List.replicate n none)).toArray 148)) := by
  obtain ⟨i0, hi, hz0, hz1, hz2⟩ := info_parts Tryz.info148
  rw [run_make (P := Tryz.prog) (w := w) 124 148 i0 (.agg #[.bool false, .int .u32 0, .int .i64 0]) Tryz.underlying124 hi hz0 .i64 .i64 (n : Int) (n : Int) (by omega) (by omega) (by rw [hz2]; omega) (by omega), hz1]
  simp [made_slots, Value.cells]
/-- An index, its items M. -/
structure IxAt (w : World) (x g n m st : Nat) (S : List (Option (Nat × Int))) (M : List (Nat × Int)) : Prop where
  at_ : IxR w x g n m M.length st S
  inv : Inv (hs n) n S M
  sz : Sz m n
  m1 : 1 ≤ m
  m2 : m ≤ 4096
  full : M.length ≤ m
  st : st ≤ n
  ids : ∀ y ∈ M, y.1 < 4294967296 ∧ -9223372036854775808 ≤ y.2 ∧ y.2 ≤ 9223372036854775807
theorem inv_nil (n : Nat) (hn : 0 < n) : Inv (hs n) n (List.replicate n none) [] :=
  ⟨by simp, List.Pairwise.nil, (fun j y hj => by rw [sl_free] at hj; cases hj), (fun i j y z hi => by rw [sl_free] at hi; cases hi), (fun y => by simp [sl_free]), by simp, fun k => hs_lt hn k⟩
theorem new_any (m : Nat) (h1 : 1 ≤ m) (h2 : m ≤ 4096) (w : World) : Calls Tryz.prog 67 #[.int .i64 (m : Int)] w fun e w' => ∃ x g n S, e = .returned (.tuple #[.pointer (some ⟨x, 0, none⟩), .int .i64 0]) ∧ IxAt w' x g n m 0 S [] ∧ w.grownBy w' none ∧ w.heap.size ≤ x ∧ w.heap.size ≤ g := by
  have hsl := slotsFor_any m h1 h2 w
  have hmk := make_slots
  have b1 : ¬ ((m : Int) < 1) := by omega
  have b2 : ¬ ((4096 : Int) < m) := by omega
  go_enter Tryz.func67, Tryz.ntmps67
  go_wp2_with fail
  refine hsl.mono ?_
  rintro e w1 ⟨n, rfl, hsz, hw1⟩
  obtain rfl := hw1.symm
  have HZ := hide hsz
  have hn8 := hsz.most h2
  have hmk2 := hmk n hn8 w
  have HM := hide (And.intro h1 h2)
  have HN8 := hide hn8
  clear hsz hmk hsl b1 b2 h1 h2 hn8
  generalize hc : (scells (List.replicate n none)).toArray = C at *
  have HC := hide hc
  clear hc
  go_wp2
  go_ret2
  have hb : (w.alloc (.cells C 148)).heap[w.heap.size]? = some (.cells (scells (List.replicate n none)).toArray 148 (0, 0)) := by rw [HC.out]; exact heap_alloc_new w _
  have g2 := World.grownBy_alloc (w.alloc (.cells C 148)) (.cells #[.pointer (some ⟨w.heap.size + 1, 0, none⟩), .int .i64 (m : Int), .int .i64 0, .int .i64 0, .slice (some ⟨w.heap.size, 0, none⟩) n n] 126) none
  have hh := heap_alloc_new (w.alloc (.cells C 148)) (.cells #[.pointer (some ⟨w.heap.size + 1, 0, none⟩), .int .i64 (m : Int), .int .i64 0, .int .i64 0, .slice (some ⟨w.heap.size, 0, none⟩) n n] 126)
  rw [World.size_alloc] at hh
  have hn0 : 0 < n := by have := HZ.out.le; have := HM.out.1; omega
  exact ⟨w.heap.size + 1, w.heap.size, n, List.replicate n none, rfl, ⟨⟨hh, (g2.block _ (row_lt hb) (by simp)).trans hb, by simp, hn0, HN8.out⟩, inv_nil n hn0, HZ.out, HM.out.1, HM.out.2, Nat.zero_le _, Nat.zero_le _, fun y hy => by simp at hy⟩, grown_trans (World.grownBy_alloc w _ none) g2, by omega, Nat.le_refl _⟩
theorem new_bad (m : Int) (h : m < 1 ∨ 4096 < m) (w : World) : Calls Tryz.prog 67 #[.int .i64 m] w fun e w' => e = .returned (.tuple #[.pointer none, .int .i64 2]) ∧ w' = w := by
  rcases h with h | h
  · go_enter Tryz.func67, Tryz.ntmps67
    go_wp2
    go_ret2
    exact ⟨rfl, rfl⟩
  · have b1 : ¬ (m < 1) := by omega
    go_enter Tryz.func67, Tryz.ntmps67
    go_wp2
    go_ret2
    exact ⟨rfl, rfl⟩
end Go.Proofs.YtcbiloomnkbalaaGreatDoor.Ix
/- The search. -/
namespace Go.Proofs.YtcbiloomnkbalaaGreatDoor.Ix
open Go.RowKit
attribute [local go_sem ↓] Go.wp_at_zero Go.wp_at_succ
/-- All slots from a on, up to b, have other items. -/
def Oth (S : List (Option (Nat × Int))) (k a b : Nat) : Prop := ∀ i, a ≤ i → i < b → ∃ y, sl S i = some y ∧ y.1 ≠ k
theorem Oth.snoc {S : List (Option (Nat × Int))} {k a b : Nat} (h : Oth S k a b) {y : Nat × Int} (hy : sl S b = some y) (hk : y.1 ≠ k) : Oth S k a (b + 1) := fun i h1 h2 => by
  rcases Nat.lt_or_ge i b with h3 | h3
  · exact h i h1 h3
  · rw [show i = b by omega]; exact ⟨y, hy, hk⟩
theorem fnd1 {hsf : Nat → Nat} {n k p : Nat} {S : List (Option (Nat × Int))} {there : Bool} (hp : p < n) (hh : hsf k ≤ p) (ho : Oth S k (hsf k) p) (hy : there = true → ∃ v, sl S p = some (k, v)) (hn : there = false → sl S p = none) : Fnd hsf n S k p there :=
  ⟨hp, fun i hi hlt => by
    unfold wy at hlt
    rw [if_pos hh] at hlt
    split at hlt
    · exact ho i (by omega) (by omega)
    · omega, hy, hn⟩
theorem fnd2 {hsf : Nat → Nat} {n k p : Nat} {S : List (Option (Nat × Int))} {there : Bool} (hn0 : hsf k < n) (hh : p < hsf k) (ho : Oth S k (hsf k) n) (ho2 : Oth S k 0 p) (hy : there = true → ∃ v, sl S p = some (k, v)) (hn : there = false → sl S p = none) : Fnd hsf n S k p there :=
  ⟨by omega, fun i hi hlt => by
    rcases Nat.lt_or_ge i (hsf k) with h1 | h1
    · unfold wy at hlt
      rw [if_neg (show ¬ hsf k ≤ i by omega), if_neg (show ¬ hsf k ≤ p by omega)] at hlt
      exact ho2 i (Nat.zero_le _) (by omega)
    · exact ho i h1 hi, hy, hn⟩
theorem idx0 (a b c d : Value) (w : World) : (Instr.index 165 (.agg #[a, b, c, d]) (.int .i64 0)).run Tryz.prog w = .ok (.agg #[a, b]) w := by
  kernel_rfl
theorem idx1 (a b c d : Value) (w : World) : (Instr.index 165 (.agg #[a, b, c, d]) (.int .i64 1)).run Tryz.prog w = .ok (.agg #[c, d]) w := by
  kernel_rfl
section
variable {w w' : World} {x g n m c st : Nat} {S : List (Option (Nat × Int))}
set_option maxRecDepth 20000 in
set_option maxHeartbeats 4000000 in
theorem find_at (h : IxR w x g n m c st S) (k : Nat) (hk : k < 4294967296) (hF : ∃ i, i < n ∧ sl S i = none) :
    Calls Tryz.prog 96 #[.pointer (some ⟨x, 0, none⟩), .int .u32 (k : Int)] w fun e w' => ∃ (p : Nat) (there : Bool), e = .returned (.tuple #[.int .i64 (p : Int), .bool there]) ∧ Fnd (hs n) n S k p there ∧ IxR w' x g n m c (wy n (hs n k) p + 1) S ∧ Kept w w' (fun i => i = x) := by
  have hno := none_at h
  have hho := home_at h k hk
  have hl := hs_lt h.pos k
  have HH := hide h
  have HK := hide hk
  have HF := hide hF
  have hn8 := h.most
  clear h hk hF
  generalize hh0 : hs n k = ho at *
  have HO := hide hh0
  clear hh0
  go_enter Tryz.func96, Tryz.ntmps96
  go_wp2
  go_step3
  go_wp2_with fail
  refine hno.mono ?_
  clear hno
  rintro e w1 ⟨rfl, hw1⟩
  obtain rfl := hw1.symm
  go_wp2_with fail
  refine hho.mono ?_
  clear hho
  rintro e w2 ⟨rfl, hg2⟩
  have h2 := HH.out.then hg2
  obtain ⟨-, -, -, c3, c4⟩ := h2.cells
  have f3 := free_row h2.head 3
  have h3 := h2.step 0
  have k3 := (Kept.new hg2 (fun i => i = x)).trans (kept_setCell w2 x 3 (.int .i64 ((0 : Nat) : Int))) (fun _ _ e => e)
  obtain ⟨-, -, -, -, d4⟩ := h3.cells
  have H3 := hide (And.intro h3 k3)
  clear h2 h3 k3 hg2
  go_wp2
  go_step3
  go_wp2
  clear c3 c4 f3 d4
  go_loopg [7, 8, 29] 2 (fun q v7 v8 v29 wr => ∃ t a : Nat, v29 = .int .i64 (t : Int) ∧ v7 = .int .i64 (a : Int) ∧ v8 = .bool false ∧ Hid (q = 2 - t ∧ ((t = 0 ∧ IxR wr x g n m c 0 S) ∨ (t = 1 ∧ Oth S k ho n ∧ IxR wr x g n m c (n - ho) S)) ∧ Kept w wr (fun i => i = x)))
  case atStart => exact ⟨0, 0, rfl, rfl, rfl, rfl, .inl ⟨rfl, H3.out.1⟩, H3.out.2⟩
  case round =>
    obtain ⟨t, a, rfl, rfl, rfl, HR⟩ := hrel
    obtain ⟨wo, hwo⟩ : ∃ wo, wo = wr := ⟨_, rfl⟩
    rw [← hwo] at HR ⊢
    clear hwo wr
    obtain ⟨B, F, T, HS⟩ : ∃ B F T : Nat, Hid ((t = 0 ∧ B = 0 ∧ F = ho ∧ T = n ∨ t = 1 ∧ B = n - ho ∧ F = 0 ∧ T = ho) ∧ IxR wo x g n m c B S ∧ (t = 1 → Oth S k ho n) ∧ Kept w wo (fun i => i = x) ∧ gk = 2 - t) := by
      obtain ⟨e0, (⟨e1, e2⟩ | ⟨e1, e2, e3⟩), e4⟩ := HR.out
      · exact ⟨0, ho, n, .inl ⟨e1, rfl, rfl, rfl⟩, e2, (fun e => by omega), e4, e0⟩
      · exact ⟨n - ho, 0, ho, .inr ⟨e1, rfl, rfl, rfl⟩, e3, (fun _ => e2), e4, e0⟩
    clear HR
    have hFT : F ≤ T ∧ T ≤ n := by obtain ⟨h1 | h1, _⟩ := HS.out <;> omega
    obtain ⟨hFT, hTn⟩ := hFT
    have hB8 : B ≤ 8192 := by obtain ⟨h1 | h1, _⟩ := HS.out <;> omega
    have hi0 := idx0
    have hi1 := idx1
    have HB := hide (And.intro hFT (And.intro hTn hB8))
    clear hFT hTn hB8
    obtain ⟨wp, hwp⟩ : ∃ wp, wp = wo.alloc (.cells #[.int .i64 (F : Int), .int .i64 (T : Int)] 164) := ⟨_, rfl⟩
    have gp : wo.grownBy wp none := by rw [hwp]; exact World.grownBy_alloc wo _ none
    have bp : wp.heap[wo.heap.size]? = some (.cells [Value.int .i64 (F : Int), .int .i64 (T : Int)].toArray 164 (0, 0)) := by rw [hwp]; exact heap_alloc_new wo _
    have hxP : x ≠ wo.heap.size := fun e => by have := row_lt HS.out.2.1.head; omega
    have hgP : g ≠ wo.heap.size := fun e => by have := row_lt HS.out.2.1.row; omega
    have HP := hide (And.intro hwp (And.intro gp (And.intro bp (And.intro hxP hgP))))
    clear hwp gp bp hxP hgP
    have key : t = 0 ∧ F = ho ∧ T = n ∨ t = 1 ∧ F = 0 ∧ T = ho := by rcases HS.out.1 with ⟨h1, _, h2, h3⟩ | ⟨h1, _, h2, h3⟩ <;> omega
    rcases key with ⟨rfl, rfl, rfl⟩ | ⟨rfl, rfl, rfl⟩
    · have HS' := HS
      obtain ⟨K, hKg⟩ : ∃ K, K = gk := ⟨_, rfl⟩
      have HKg := hide hKg
      clear hKg
      go_wp2
      rw [← HP.out.1]
      go_loopg [7, 8] (T - F) (fun q v7 v8 ws => ∃ a : Nat, v7 = .int .i64 (a : Int) ∧ v8 = .bool false ∧ Hid (q = T - a ∧ F ≤ a ∧ a ≤ T ∧ Oth S k F a ∧ IxR ws x g T m c (B + (a - F)) S ∧ ws.heap[wo.heap.size]? = some (.cells [Value.int .i64 (F : Int), .int .i64 (T : Int)].toArray 164 (0, 0)) ∧ Kept w ws (fun i => i = x)))
      case atStart => exact ⟨F, rfl, rfl, rfl, Nat.le_refl _, HB.out.1, (fun i h1 h2 => by omega), by rw [Nat.sub_self, Nat.add_zero]; exact HS.out.2.1.then HP.out.2.1, HP.out.2.2.1, HS.out.2.2.2.1.trans (Kept.new HP.out.2.1 (fun i => i = x)) (fun _ _ e => e)⟩
      case round =>
        obtain ⟨a, rfl, rfl, HL⟩ := hrel
        have pc := cell_row HL.out.2.2.2.2.2.1 1
        simp only [List.getElem?_cons_succ, List.getElem?_cons_zero] at pc
        by_cases hlt : a < T
        · have han : a < T := by have := HB.out.2.1; omega
          have hR := HL.out.2.2.2.2.1
          obtain ⟨sp, hsp⟩ : ∃ sp, sp = B + (a - F) := ⟨_, rfl⟩
          rw [← hsp] at hR
          have hs2 : sp ≤ 20000 := by have := HB.out.2.2; have := hR.most; omega
          have HSp := hide hsp
          obtain ⟨-, -, -, c3, c4⟩ := hR.cells
          have f3 := free_row hR.head 3
          have hR2 := hR.step (sp + 1)
          have HK2 := hide (HL.out.2.2.2.2.2.2.trans (kept_setCell wr x 3 (.int .i64 ((sp + 1 : Nat) : Int))) (fun _ _ e => e))
          have HP2 := hide ((kept_setCell wr x 3 (.int .i64 ((sp + 1 : Nat) : Int))).at HL.out.2.2.2.2.2.1 (fun e => HP.out.2.2.2.1 e.symm))
          have HR2 := hide hR2
          have hst : IntKind.i64.wrap ((sp : Int) + 1) = ((sp + 1 : Nat) : Int) := by rw [IntKind.wrap_i64]; omega
          obtain ⟨-, -, -, -, d4⟩ := hR2.cells
          obtain ⟨d5, d6, -⟩ := hR2.slot han
          have hlt' : ((a : Int) < (T : Int)) = True := by simp; omega
          clear hsp hR hR2 hlt
          generalize hW : wr.setCell ⟨x, 3, none⟩ (.int .i64 ((sp + 1 : Nat) : Int)) = W at *
          generalize ((sp + 1 : Nat) : Int) = s1 at *
          have hwy : wy T F a + 1 = sp + 1 := by
            have e1 := HSp.out
            have e2 := HL.out.2.1
            have e3 := HS.out.1
            unfold wy
            split <;> omega
          cases hy : sl S a with
          | none =>
            rw [hy] at d5 d6
            have HY := hide hy
            clear hy
            simp only [Option.isSome] at d5
            go_wp2
            try rw [Exit.noGoto_ret]
            go_ret2
            refine ⟨a, false, rfl, fnd1 han (by rw [HO.out]; exact HL.out.2.1) (by rw [HO.out]; exact HL.out.2.2.2.1) (fun e => by cases e) (fun _ => HY.out), by rw [hwy]; exact HR2.out, HK2.out⟩
          | some y =>
            rw [hy] at d5 d6
            have HY := hide hy
            clear hy
            simp only [Option.isSome] at d5
            rw [show idN (some y) = y.1 from rfl] at d6
            by_cases hyk : y.1 = k
            · rw [hyk] at d6
              have HYK := hide hyk
              clear hyk
              go_wp2
              try rw [Exit.noGoto_ret]
              go_ret2
              refine ⟨a, true, rfl, fnd1 han (by rw [HO.out]; exact HL.out.2.1) (by rw [HO.out]; exact HL.out.2.2.2.1) (fun _ => ⟨y.2, by rw [HY.out, ← HYK.out]⟩) (fun e => by cases e), by rw [hwy]; exact HR2.out, HK2.out⟩
            · have q1 : (((y.1 : Nat) : Int) == ((k : Nat) : Int)) = false := by simp; omega
              have q2 : decide (((y.1 : Nat) : Int) = ((k : Nat) : Int)) = false := by simp; omega
              have HSn := hide (HL.out.2.2.2.1.snoc HY.out hyk)
              clear hyk HY
              generalize y.1 = y1 at *
              go_wp2
              go_roundg (gk - 1)
              case rel =>
                have e1 := HSp.out
                have e2 := HL.out.2.1
                exact ⟨a + 1, by simp, rfl, by have := HL.out.1; omega, by omega, by omega, HSn.out, by rw [show B + (a + 1 - F) = sp + 1 by omega]; exact HR2.out, HP2.out, HK2.out⟩
              case measure => have := HL.out.1; omega
        · obtain rfl : a = T := by have := HL.out.2.2.1; omega
          have hlt' : ((a : Int) < (a : Int)) = False := by simp
          go_wp2
          go_roundg (K - 1)
          case rel => exact ⟨1, a, rfl, rfl, rfl, by have := HKg.out; have := HS.out.2.2.2.2; omega, .inr ⟨rfl, HL.out.2.2.2.1, by rcases HS.out.1 with ⟨_, hB, _⟩ | ⟨h, _⟩; (rw [hB, Nat.zero_add] at HL; exact HL.out.2.2.2.2.1); omega⟩, HL.out.2.2.2.2.2.2⟩
          case measure => have := HKg.out; have := HS.out.2.2.2.2; omega
    · have HS' := HS
      obtain ⟨K, hKg⟩ : ∃ K, K = gk := ⟨_, rfl⟩
      have HKg := hide hKg
      clear hKg
      go_wp2
      rw [show wo.alloc (.cells #[.int .i64 0, .int .i64 (T : Int)] 164) = wp from HP.out.1.symm]
      go_loopg [7, 8] (T - 0) (fun q v7 v8 ws => ∃ a : Nat, v7 = .int .i64 (a : Int) ∧ v8 = .bool false ∧ Hid (q = T - a ∧ 0 ≤ a ∧ a ≤ T ∧ Oth S k 0 a ∧ IxR ws x g n m c (B + (a - 0)) S ∧ ws.heap[wo.heap.size]? = some (.cells [Value.int .i64 ((0 : Nat) : Int), .int .i64 (T : Int)].toArray 164 (0, 0)) ∧ Kept w ws (fun i => i = x)))
      case atStart => exact ⟨0, rfl, rfl, rfl, Nat.le_refl _, HB.out.1, (fun i h1 h2 => by omega), by rw [Nat.sub_self, Nat.add_zero]; exact HS.out.2.1.then HP.out.2.1, HP.out.2.2.1, HS.out.2.2.2.1.trans (Kept.new HP.out.2.1 (fun i => i = x)) (fun _ _ e => e)⟩
      case round =>
        obtain ⟨a, rfl, rfl, HL⟩ := hrel
        have pc := cell_row HL.out.2.2.2.2.2.1 1
        simp only [List.getElem?_cons_succ, List.getElem?_cons_zero] at pc
        by_cases hlt : a < T
        · have han : a < n := by have := HB.out.2.1; omega
          have hR := HL.out.2.2.2.2.1
          obtain ⟨sp, hsp⟩ : ∃ sp, sp = B + (a - 0) := ⟨_, rfl⟩
          rw [← hsp] at hR
          have hs2 : sp ≤ 20000 := by have := HB.out.2.2; have := hR.most; omega
          have HSp := hide hsp
          obtain ⟨-, -, -, c3, c4⟩ := hR.cells
          have f3 := free_row hR.head 3
          have hR2 := hR.step (sp + 1)
          have HK2 := hide (HL.out.2.2.2.2.2.2.trans (kept_setCell wr x 3 (.int .i64 ((sp + 1 : Nat) : Int))) (fun _ _ e => e))
          have HP2 := hide ((kept_setCell wr x 3 (.int .i64 ((sp + 1 : Nat) : Int))).at HL.out.2.2.2.2.2.1 (fun e => HP.out.2.2.2.1 e.symm))
          have HR2 := hide hR2
          have hst : IntKind.i64.wrap ((sp : Int) + 1) = ((sp + 1 : Nat) : Int) := by rw [IntKind.wrap_i64]; omega
          obtain ⟨-, -, -, -, d4⟩ := hR2.cells
          obtain ⟨d5, d6, -⟩ := hR2.slot han
          have hlt' : ((a : Int) < (T : Int)) = True := by simp; omega
          have hlt2 := hlt
          clear hsp hR hR2 hlt
          generalize hW : wr.setCell ⟨x, 3, none⟩ (.int .i64 ((sp + 1 : Nat) : Int)) = W at *
          generalize ((sp + 1 : Nat) : Int) = s1 at *
          have hwy : wy n T a + 1 = sp + 1 := by
            have e1 := HSp.out
            have e2 := HL.out.2.1
            have e3 := HS.out.1
            unfold wy
            split <;> omega
          cases hy : sl S a with
          | none =>
            rw [hy] at d5 d6
            have HY := hide hy
            clear hy
            simp only [Option.isSome] at d5
            go_wp2
            try rw [Exit.noGoto_ret]
            go_ret2
            refine ⟨a, false, rfl, fnd2 (by rw [HO.out]; exact hl) (by rw [HO.out]; exact hlt2) (by rw [HO.out]; exact HS.out.2.2.1 trivial) HL.out.2.2.2.1 (fun e => by cases e) (fun _ => HY.out), by rw [hwy]; exact HR2.out, HK2.out⟩
          | some y =>
            rw [hy] at d5 d6
            have HY := hide hy
            clear hy
            simp only [Option.isSome] at d5
            rw [show idN (some y) = y.1 from rfl] at d6
            by_cases hyk : y.1 = k
            · rw [hyk] at d6
              have HYK := hide hyk
              clear hyk
              go_wp2
              try rw [Exit.noGoto_ret]
              go_ret2
              refine ⟨a, true, rfl, fnd2 (by rw [HO.out]; exact hl) (by rw [HO.out]; exact hlt2) (by rw [HO.out]; exact HS.out.2.2.1 trivial) HL.out.2.2.2.1 (fun _ => ⟨y.2, by rw [HY.out, ← HYK.out]⟩) (fun e => by cases e), by rw [hwy]; exact HR2.out, HK2.out⟩
            · have q1 : (((y.1 : Nat) : Int) == ((k : Nat) : Int)) = false := by simp; omega
              have q2 : decide (((y.1 : Nat) : Int) = ((k : Nat) : Int)) = false := by simp; omega
              have HSn := hide (HL.out.2.2.2.1.snoc HY.out hyk)
              clear hyk HY
              generalize y.1 = y1 at *
              go_wp2
              go_roundg (gk - 1)
              case rel =>
                have e1 := HSp.out
                have e2 := HL.out.2.1
                exact ⟨a + 1, by simp, rfl, by have := HL.out.1; omega, by omega, by omega, HSn.out, by rw [show B + (a + 1 - 0) = sp + 1 by omega]; exact HR2.out, HP2.out, HK2.out⟩
              case measure => have := HL.out.1; omega
        · obtain rfl : a = T := by have := HL.out.2.2.1; omega
          exfalso
          obtain ⟨i, hi, hfree⟩ := HF.out
          rcases Nat.lt_or_ge i a with h1 | h1
          · obtain ⟨y, hy, _⟩ := HL.out.2.2.2.1 i (Nat.zero_le _) h1
            rw [hfree] at hy; cases hy
          · obtain ⟨y, hy, _⟩ := HS.out.2.2.1 trivial i h1 hi
            rw [hfree] at hy; cases hy
end
end Go.Proofs.YtcbiloomnkbalaaGreatDoor.Ix
