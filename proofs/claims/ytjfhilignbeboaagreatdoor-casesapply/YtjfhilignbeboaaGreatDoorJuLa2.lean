import Derived.Test.YtjfhilignbeboaaGreatDoorJuAl
import Derived.Test.YtjfhilignbeboaaGreatDoorJuAz
namespace Go.Proofs.YtjfhilignbeboaaGreatDoor
/- Two listed tables. -/
open Go.ChangeShapes Go.WideShapes Go.ChangeAt Go.RowKit Go.Deep
theorem laid_two {P : Program} {W : World} {a b : String × DataW Unit} (h : laidMet P [a, b] W) : laidMet P [a] W ∧ laidMet P [b] W := by
  obtain ⟨ps, ⟨g, t, cs, fuel, p, q, h1, h2, h3, h4, h5, rfl⟩, hn, hm⟩ := h
  have hb := h5
  obtain ⟨g', t', cs', fuel', p', q', k1, k2, k3, k4, k5, rfl⟩ := h5
  obtain rfl : q' = [] := k5
  constructor
  · refine ⟨_, ⟨g, t, cs, fuel, p, [], h1, h2, h3, h4, rfl, rfl⟩, ?_, ?_⟩
    · rw [List.append_nil]
      exact (List.nodup_append.1 hn).1
    · intro b off hx
      exact hm b off (by rw [List.append_nil] at hx; exact List.mem_append_left _ hx)
  · refine ⟨_, hb, (List.nodup_append.1 hn).2.1, ?_⟩
    intro b off hx
    exact hm b off (List.mem_append_right _ hx)
theorem gTabB : Tryz.prog.globalNamed "gangway/replies.fieldsOf" = some 1 := by kernel_rfl
theorem gTabTypeB : (Tryz.prog.globals[1]?).map (·.type) = some 204 := by kernel_rfl
theorem cells204 : Tryz.prog.cellsOf 204 = 11 := by kernel_rfl
theorem cells161 : Tryz.prog.cellsOf 161 = 1 := by kernel_rfl
theorem tables {W : World} (h : laidMetH Tryz.prog [("gangway/records.fieldsOf", Rows.laid_gangway_records_fieldsOf), ("gangway/replies.fieldsOf", Rows.laid_gangway_replies_fieldsOf)] W) : Rk.Tab W ∧ Rt.Tab W := by
  have h' : laidMet Tryz.prog [("gangway/records.fieldsOf", Rows.laid_gangway_records_fieldsOf), ("gangway/replies.fieldsOf", Rows.laid_gangway_replies_fieldsOf)] W := h
  obtain ⟨h1, h2⟩ := laid_two h'
  have ht : Lib.TabIs Tryz.prog W "gangway/replies.fieldsOf" .u8 Rt.tabN := Lib.tabIs_of_head (rest := []) gTabB gTabTypeB Tryz.underlying204 Tryz.underlying161 cells161 cells204 h2
  refine ⟨table h1, ?_⟩
  intro j hj
  exact ht.cell gTabB j hj
/-- A world for the witness: the tables (blocks 0, 1) holding what their initialisers lay. -/
noncomputable def laidWorldB (os : Os) : World :=
  { laidWorld os with heap := (laidWorld os).heap.modify 1 fun
      | .cells _ t frozen => .cells (Rt.tabN.map (Value.int .u8)).toArray t frozen
      | o => o }
end Go.Proofs.YtjfhilignbeboaaGreatDoor
