/- An index in memory; small calls. -/
import Derived.Test.YtoocaioilpgmeaaIm
namespace Go.Proofs.Ytoocaioilpgmeaa
open Go.RowKit Ix
attribute [local go_sem ↓] Go.wp_at_zero Go.wp_at_succ
def idN (o : Option (Nat × Int)) : Nat := (o.map (·.1)).getD 0
def vlN (o : Option (Nat × Int)) : Int := (o.map (·.2)).getD 0
def scell (o : Option (Nat × Int)) : List Value := [.bool o.isSome, .int .u32 (idN o : Int), .int .i64 (vlN o)]
def scells (S : List (Option (Nat × Int))) : List Value := S.flatMap scell
theorem scells_length (S : List (Option (Nat × Int))) : (scells S).length = S.length * 3 := by
  induction S with
  | nil => rfl
  | cons x r ih => simp [scells, scell] at ih ⊢; omega
theorem scells_get {S : List (Option (Nat × Int))} {i : Nat} (h : i < S.length) : (scells S)[i * 3]? = some (.bool (sl S i).isSome) ∧ (scells S)[i * 3 + 1]? = some (.int .u32 (idN (sl S i) : Int)) ∧ (scells S)[i * 3 + 2]? = some (.int .i64 (vlN (sl S i))) := by
  induction S generalizing i with
  | nil => simp at h
  | cons y r ih =>
    have e : scells (y :: r) = .bool y.isSome :: .int .u32 (idN y : Int) :: .int .i64 (vlN y) :: scells r := by simp [scells, scell]
    cases i with
    | zero => simp [e, sl]
    | succ i =>
      have := ih (i := i) (by simpa using h)
      have e2 : sl (y :: r) (i + 1) = sl r i := by simp [sl]
      rw [e, e2, show (i + 1) * 3 = i * 3 + 3 by omega, show i * 3 + 3 + 1 = (i * 3 + 1) + 3 by omega, show i * 3 + 3 + 2 = (i * 3 + 2) + 3 by omega]
      simpa using this
theorem scells_set {S : List (Option (Nat × Int))} {i : Nat} (y : Option (Nat × Int)) : scells (S.set i y) = (((scells S).set (i * 3) (.bool y.isSome)).set (i * 3 + 1) (.int .u32 (idN y : Int))).set (i * 3 + 2) (.int .i64 (vlN y)) := by
  induction S generalizing i with
  | nil => simp [scells]
  | cons z r ih =>
    have e : ∀ z, scells (z :: r) = .bool z.isSome :: .int .u32 (idN z : Int) :: .int .i64 (vlN z) :: scells r := fun z => by simp [scells, scell]
    cases i with
    | zero => simp [e]
    | succ i =>
      have e2 : scells (z :: r.set i y) = .bool z.isSome :: .int .u32 (idN z : Int) :: .int .i64 (vlN z) :: scells (r.set i y) := by simp [scells, scell]
      rw [List.set_cons_succ, e2, ih, e, show (i + 1) * 3 = i * 3 + 3 by omega, show i * 3 + 3 + 1 = (i * 3 + 1) + 3 by omega, show i * 3 + 3 + 2 = (i * 3 + 2) + 3 by omega]
      rfl
/-- The index's own cells. -/
def hdc (x g n m c st : Nat) : List Value := [.pointer (some ⟨x, 0, none⟩), .int .i64 (m : Int), .int .i64 (c : Int), .int .i64 (st : Int), .slice (some ⟨g, 0, none⟩) n n]
/-- On which slot the search of an id begins. -/
def hs (n k : Nat) : Nat := Mx.hash k % n
structure IxR (w : World) (x g n m c st : Nat) (S : List (Option (Nat × Int))) : Prop where
  head : w.heap[x]? = some (.cells (hdc x g n m c st).toArray 25 (0, 0))
  row : w.heap[g]? = some (.cells (scells S).toArray 71 (0, 0))
  len : S.length = n
  pos : 0 < n
  most : n ≤ 8192
section
variable {w w' : World} {x g n m c st : Nat} {S : List (Option (Nat × Int))}
theorem IxR.ne (h : IxR w x g n m c st S) : x ≠ g := fun e => by have := h.row; rw [← e, h.head] at this; simp at this
theorem IxR.cells (h : IxR w x g n m c st S) : w.cell? ⟨x, 0, none⟩ = some (.pointer (some ⟨x, 0, none⟩)) ∧ w.cell? ⟨x, 1, none⟩ = some (.int .i64 (m : Int)) ∧ w.cell? ⟨x, 2, none⟩ = some (.int .i64 (c : Int)) ∧ w.cell? ⟨x, 3, none⟩ = some (.int .i64 (st : Int)) ∧ w.cell? ⟨x, 4, none⟩ = some (.slice (some ⟨g, 0, none⟩) n n) :=
  ⟨cell_row h.head 0, cell_row h.head 1, cell_row h.head 2, cell_row h.head 3, cell_row h.head 4⟩
theorem IxR.slot (h : IxR w x g n m c st S) {i : Nat} (hi : i < n) : w.cell? ⟨g, i * 3, none⟩ = some (.bool (sl S i).isSome) ∧ w.cell? ⟨g, i * 3 + 1, none⟩ = some (.int .u32 (idN (sl S i) : Int)) ∧ w.cell? ⟨g, i * 3 + 2, none⟩ = some (.int .i64 (vlN (sl S i))) := by
  obtain ⟨h1, h2, h3⟩ := scells_get (S := S) (i := i) (by rw [h.len]; exact hi)
  rw [cell_row h.row, cell_row h.row, cell_row h.row]
  exact ⟨h1, h2, h3⟩
theorem IxR.far {X : Nat → Prop} (h : IxR w x g n m c st S) (k : Kept w w' X) (hx : ¬ X x) (hg : ¬ X g) : IxR w' x g n m c st S := ⟨k.at h.head hx, k.at h.row hg, h.len, h.pos, h.most⟩
theorem IxR.then (h : IxR w x g n m c st S) (k : w.grownBy w' none) : IxR w' x g n m c st S := h.far (Kept.new k (fun _ => False)) (fun e => e) (fun e => e)
/-- Steps are written. -/
theorem IxR.step (h : IxR w x g n m c st S) (s : Nat) : IxR (w.setCell ⟨x, 3, none⟩ (.int .i64 (s : Int))) x g n m c s S := by
  have k := kept_setCell w x 3 (.int .i64 (s : Int))
  exact ⟨row_setCell h.head 3 _, k.at h.row (fun e => h.ne e.symm), h.len, h.pos, h.most⟩
theorem IxR.count (h : IxR w x g n m c st S) (s : Nat) : IxR (w.setCell ⟨x, 2, none⟩ (.int .i64 (s : Int))) x g n m s st S := by
  have k := kept_setCell w x 2 (.int .i64 (s : Int))
  exact ⟨row_setCell h.head 2 _, k.at h.row (fun e => h.ne e.symm), h.len, h.pos, h.most⟩
theorem hs_lt (hn : 0 < n) (k : Nat) : hs n k < n := Nat.mod_lt _ hn
set_option maxRecDepth 20000 in
theorem none_at (h : IxR w x g n m c st S) : Calls Try.prog 30 #[.pointer (some ⟨x, 0, none⟩)] w fun e w' => e = .returned (.bool false) ∧ w' = w := by
  obtain ⟨c0, -, -, -, -⟩ := h.cells
  have hsome : (Try.prog.info? 25).isSome = true := by kernel_rfl
  obtain ⟨j, hj⟩ := Option.isSome_iff_exists.1 hsome
  have hs := Go.Lib.run_neq_ptr_same (P := Try.prog) (tp := 22) (te := 25) w ⟨x, 0, none⟩ Try.underlying22 hj
  clear h hsome hj
  go_enter Try.func30, Try.ntmps30
  go_wp2
  go_ret
  exact ⟨rfl, rfl⟩
theorem most_at (h : IxR w x g n m c st S) : Calls Try.prog 13 #[.pointer (some ⟨x, 0, none⟩)] w fun e w' => e = .returned (.int .i64 (m : Int)) ∧ w' = w := by
  obtain ⟨-, c1, c2, c3, c4⟩ := h.cells
  have hn := none_at h
  clear h
  go_enter Try.func13, Try.ntmps13
  go_wp2_with (go_at_call 30; refine hn.mono ?_; rintro e w1 ⟨rfl, rfl⟩)
  go_wp2
  go_ret
  exact ⟨rfl, rfl⟩
theorem len_at (h : IxR w x g n m c st S) : Calls Try.prog 14 #[.pointer (some ⟨x, 0, none⟩)] w fun e w' => e = .returned (.int .i64 (c : Int)) ∧ w' = w := by
  obtain ⟨-, c1, c2, c3, c4⟩ := h.cells
  have hn := none_at h
  clear h
  go_enter Try.func14, Try.ntmps14
  go_wp2_with (go_at_call 30; refine hn.mono ?_; rintro e w1 ⟨rfl, rfl⟩)
  go_wp2
  go_ret
  exact ⟨rfl, rfl⟩
theorem steps_at (h : IxR w x g n m c st S) : Calls Try.prog 15 #[.pointer (some ⟨x, 0, none⟩)] w fun e w' => e = .returned (.int .i64 (st : Int)) ∧ w' = w := by
  obtain ⟨-, c1, c2, c3, c4⟩ := h.cells
  have hn := none_at h
  clear h
  go_enter Try.func15, Try.ntmps15
  go_wp2_with (go_at_call 30; refine hn.mono ?_; rintro e w1 ⟨rfl, rfl⟩)
  go_wp2
  go_ret
  exact ⟨rfl, rfl⟩
theorem slots_at (h : IxR w x g n m c st S) : Calls Try.prog 16 #[.pointer (some ⟨x, 0, none⟩)] w fun e w' => e = .returned (.int .i64 (n : Int)) ∧ w' = w := by
  obtain ⟨-, c1, c2, c3, c4⟩ := h.cells
  have hn := none_at h
  clear h
  go_enter Try.func16, Try.ntmps16
  go_wp2_with (go_at_call 30; refine hn.mono ?_; rintro e w1 ⟨rfl, rfl⟩)
  go_wp2
  go_ret
  exact ⟨rfl, rfl⟩
theorem home_at (h : IxR w x g n m c st S) (k : Nat) (hk : k < 4294967296) : Calls Try.prog 42 #[.pointer (some ⟨x, 0, none⟩), .int .u32 (k : Int)] w fun e w' => e = .returned (.int .i64 (hs n k : Int)) ∧ w.grownBy w' none := by
  obtain ⟨-, -, -, -, c4⟩ := h.cells
  have hh := fun W => hash_any k (by omega) W
  have hl := Mx.hash_lt k
  have e1 : ((Mx.hash k : Nat) : Int).tmod ((n : Nat) : Int) = ((hs n k : Nat) : Int) := by rw [Int.tmod_eq_emod_of_nonneg (by omega)]; rfl
  have hm := hs_lt h.pos k
  have h0 := h.pos
  have hn := h.most
  clear h
  generalize hs n k = r at *
  generalize Mx.hash k = q at *
  have w1 : IntKind.u64.wrap ((n : Nat) : Int) = (n : Int) := by rw [wrap_u64]; omega
  have w2 : IntKind.i64.wrap ((r : Nat) : Int) = (r : Int) := by rw [IntKind.wrap_i64]; omega
  have w3 : IntKind.u64.wrap ((k : Nat) : Int) = (k : Int) := by rw [wrap_u64]; omega
  have w4 : IntKind.u64.wrap ((r : Nat) : Int) = (r : Int) := by rw [wrap_u64]; omega
  have nz : ((n : Int) == 0) = false := by simp; omega
  go_enter Try.func42, Try.ntmps42
  go_wp2
  go_quiet ((go_at_call 49; exact Calls.quiet_of_same (hh _)))
  go_wp2
  go_ret
  exact ⟨rfl, grown_drewN _ _ _⟩
theorem behind_at (h : IxR w x g n m c st S) (a : Nat) (ha : a < n) : Calls Try.prog 43 #[.pointer (some ⟨x, 0, none⟩), .int .i64 (a : Int)] w fun e w' => e = .returned (.int .i64 (bh n a : Int)) ∧ w' = w := by
  obtain ⟨-, -, -, -, c4⟩ := h.cells
  have e1 : ((a : Int) + 1).tmod (n : Int) = ((bh n a : Nat) : Int) := by rw [Int.tmod_eq_emod_of_nonneg (by omega)]; exact bh_int ha
  have h0 := h.pos
  have hn := h.most
  have hb := bh_lt ha
  clear h
  generalize bh n a = r at *
  have nz : ((n : Int) == 0) = false := by simp; omega
  go_enter Try.func43, Try.ntmps43
  go_wp2
  go_ret
  exact ⟨rfl, rfl⟩
theorem way_at (h : IxR w x g n m c st S) (a b : Nat) (ha : a < n) (hb : b < n) : Calls Try.prog 44 #[.pointer (some ⟨x, 0, none⟩), .int .i64 (a : Int), .int .i64 (b : Int)] w fun e w' => e = .returned (.int .i64 (wy n a b : Int)) ∧ w.grownBy w' none := by
  obtain ⟨-, -, -, -, c4⟩ := h.cells
  have e1 : ((b : Int) - a + n).tmod (n : Int) = ((wy n a b : Nat) : Int) := by rw [Int.tmod_eq_emod_of_nonneg (by omega)]; exact wy_int ha hb
  have h0 := h.pos
  have hn := h.most
  have hl := wy_lt ha hb
  clear h
  generalize wy n a b = r at *
  have nz : ((n : Int) == 0) = false := by simp; omega
  go_enter Try.func44, Try.ntmps44
  go_wp2
  go_quiet (fail)
  go_wp2
  go_ret
  exact ⟨rfl, grown_drewN _ _ _⟩
end
end Go.Proofs.Ytoocaioilpgmeaa
