/- Texts joined: KNil, X3, X4. -/
import Derived.Test.YtnnmaknjhfjojaaGreatDoorJrAg
import Derived.Test.YtnnmaknjhfjojaaGreatDoorJrAj
/- The contracts of the flat functions at no list. (By program: mknil.py.) -/
namespace Go.Proofs.YtnnmaknjhfjojaaGreatDoor.Ap
open Go.RowKit
attribute [local go_sem ↓] Go.wp_at_zero Go.wp_at_succ

/-- The cells of a list of nothing. -/
noncomputable def noCells (E : TypeId) : Array Value := match Tryz.prog.info? E with | some i => (match i.zero with | some z => madeCells z.cells (0 * i.size) | none => #[]) | none => #[]
theorem make_none (T E : TypeId) (hu : Tryz.prog.underlying T = some (.slice E)) (hi : ((Tryz.prog.info? E).bind (·.zero)).isSome = true) (w : World) :
    (Instr.makeSlice T (.int .i64 0) (.int .i64 0)).run Tryz.prog w = .ok (.slice (some ⟨w.heap.size, 0, none⟩) 0 0) (w.alloc (.cells (noCells E) E)) := by
  cases hq : Tryz.prog.info? E with
  | none => rw [hq] at hi; cases hi
  | some i =>
    rw [hq] at hi
    simp only [Option.bind_some] at hi
    obtain ⟨z, hz⟩ := Option.isSome_iff_exists.1 hi
    have h := run_make (P := Tryz.prog) (w := w) T E i z hu hq hz .i64 .i64 0 0 (by omega) (by omega) (by omega) (by omega)
    have e : noCells E = madeCells z.cells ((0 : Int).toNat * i.size) := by unfold noCells; rw [hq]; simp only []; rw [hz]; rfl
    rw [e]
    exact h

set_option maxRecDepth 100000 in
set_option maxHeartbeats 1000000 in
theorem nil_50 (w : World) : Calls Tryz.prog 50 #[.slice none 0 0] w fun e w' => e = .returned (.bool true) ∧ w.grownBy w' none := by
  have hmk := fun w => make_none 72 60 Tryz.underlying72 (by kernel_rfl) w
  go_enter Tryz.func50, Tryz.ntmps50
  go_wp2
  go_loopg [3, 4] 0 (fun _ i _ wr => i = .int .i64 0 ∧ w.grownBy wr none)
  case atStart => exact ⟨rfl, by first | exact hg | exact grown_refl _ _ | exact grown_trans hg (World.grownBy_alloc _ _ none)⟩
  case round =>
    obtain ⟨rfl, hg⟩ := hrel
    go_wp2
    go_loopg [6, 7, 8] 0 (fun _ i _ _ wr => i = .int .i64 0 ∧ w.grownBy wr none)
    case atStart => exact ⟨rfl, by first | exact hg | exact grown_refl _ _ | exact grown_trans hg (World.grownBy_alloc _ _ none)⟩
    case round =>
      obtain ⟨rfl, hg⟩ := hrel
      go_wp2
      go_loopg [9, 10] 0 (fun _ i _ wr => i = .int .i64 0 ∧ w.grownBy wr none)
      case atStart => exact ⟨rfl, by first | exact hg | exact grown_refl _ _ | exact grown_trans hg (World.grownBy_alloc _ _ none)⟩
      case round =>
        obtain ⟨rfl, hg⟩ := hrel
        go_wp2
        go_loopg [11, 12, 13] 0 (fun _ i _ _ wr => i = .int .i64 0 ∧ w.grownBy wr none)
        case atStart => exact ⟨rfl, by first | exact hg | exact grown_refl _ _ | exact grown_trans hg (World.grownBy_alloc _ _ none)⟩
        case round =>
          obtain ⟨rfl, hg⟩ := hrel
          go_wp2
          go_loopg [14, 15] 0 (fun _ i _ wr => i = .int .i64 0 ∧ w.grownBy wr none)
          case atStart => exact ⟨rfl, by first | exact hg | exact grown_refl _ _ | exact grown_trans hg (World.grownBy_alloc _ _ none)⟩
          case round =>
            obtain ⟨rfl, hg⟩ := hrel
            go_wp2
            go_ret
            exact ⟨rfl, hg⟩

set_option maxRecDepth 100000 in
set_option maxHeartbeats 1000000 in
theorem nil_51 (w : World) : Calls Tryz.prog 51 #[.slice none 0 0] w fun e w' => e = .returned (.bool true) ∧ w.grownBy w' none := by
  have hmk := fun w => make_none 51 22 Tryz.underlying51 (by kernel_rfl) w
  go_enter Tryz.func51, Tryz.ntmps51
  go_wp2
  go_loopg [3, 4] 0 (fun _ i _ wr => i = .int .i64 0 ∧ w.grownBy wr none)
  case atStart => exact ⟨rfl, by first | exact hg | exact grown_refl _ _ | exact grown_trans hg (World.grownBy_alloc _ _ none)⟩
  case round =>
    obtain ⟨rfl, hg⟩ := hrel
    go_wp2
    go_loopg [6, 7, 8] 0 (fun _ i _ _ wr => i = .int .i64 0 ∧ w.grownBy wr none)
    case atStart => exact ⟨rfl, by first | exact hg | exact grown_refl _ _ | exact grown_trans hg (World.grownBy_alloc _ _ none)⟩
    case round =>
      obtain ⟨rfl, hg⟩ := hrel
      go_wp2
      go_loopg [9, 10] 0 (fun _ i _ wr => i = .int .i64 0 ∧ w.grownBy wr none)
      case atStart => exact ⟨rfl, by first | exact hg | exact grown_refl _ _ | exact grown_trans hg (World.grownBy_alloc _ _ none)⟩
      case round =>
        obtain ⟨rfl, hg⟩ := hrel
        go_wp2
        go_loopg [11, 12, 13] 0 (fun _ i _ _ wr => i = .int .i64 0 ∧ w.grownBy wr none)
        case atStart => exact ⟨rfl, by first | exact hg | exact grown_refl _ _ | exact grown_trans hg (World.grownBy_alloc _ _ none)⟩
        case round =>
          obtain ⟨rfl, hg⟩ := hrel
          go_wp2
          go_loopg [14, 15] 0 (fun _ i _ wr => i = .int .i64 0 ∧ w.grownBy wr none)
          case atStart => exact ⟨rfl, by first | exact hg | exact grown_refl _ _ | exact grown_trans hg (World.grownBy_alloc _ _ none)⟩
          case round =>
            obtain ⟨rfl, hg⟩ := hrel
            go_wp2
            go_ret
            exact ⟨rfl, hg⟩

set_option maxRecDepth 100000 in
set_option maxHeartbeats 1000000 in
theorem nil_52 (w : World) : Calls Tryz.prog 52 #[.slice none 0 0] w fun e w' => e = .returned (.bool true) ∧ w.grownBy w' none := by
  have hmk := fun w => make_none 73 129 Tryz.underlying73 (by kernel_rfl) w
  go_enter Tryz.func52, Tryz.ntmps52
  go_wp2
  go_loopg [3, 4] 0 (fun _ i _ wr => i = .int .i64 0 ∧ w.grownBy wr none)
  case atStart => exact ⟨rfl, by first | exact hg | exact grown_refl _ _ | exact grown_trans hg (World.grownBy_alloc _ _ none)⟩
  case round =>
    obtain ⟨rfl, hg⟩ := hrel
    go_wp2
    go_loopg [6, 7, 8] 0 (fun _ i _ _ wr => i = .int .i64 0 ∧ w.grownBy wr none)
    case atStart => exact ⟨rfl, by first | exact hg | exact grown_refl _ _ | exact grown_trans hg (World.grownBy_alloc _ _ none)⟩
    case round =>
      obtain ⟨rfl, hg⟩ := hrel
      go_wp2
      go_loopg [9, 10] 0 (fun _ i _ wr => i = .int .i64 0 ∧ w.grownBy wr none)
      case atStart => exact ⟨rfl, by first | exact hg | exact grown_refl _ _ | exact grown_trans hg (World.grownBy_alloc _ _ none)⟩
      case round =>
        obtain ⟨rfl, hg⟩ := hrel
        go_wp2
        go_loopg [11, 12, 13] 0 (fun _ i _ _ wr => i = .int .i64 0 ∧ w.grownBy wr none)
        case atStart => exact ⟨rfl, by first | exact hg | exact grown_refl _ _ | exact grown_trans hg (World.grownBy_alloc _ _ none)⟩
        case round =>
          obtain ⟨rfl, hg⟩ := hrel
          go_wp2
          go_loopg [14, 15] 0 (fun _ i _ wr => i = .int .i64 0 ∧ w.grownBy wr none)
          case atStart => exact ⟨rfl, by first | exact hg | exact grown_refl _ _ | exact grown_trans hg (World.grownBy_alloc _ _ none)⟩
          case round =>
            obtain ⟨rfl, hg⟩ := hrel
            go_wp2
            go_ret
            exact ⟨rfl, hg⟩

set_option maxRecDepth 100000 in
set_option maxHeartbeats 1000000 in
theorem nil_53 (w : World) : Calls Tryz.prog 53 #[.slice none 0 0] w fun e w' => e = .returned (.bool true) ∧ w.grownBy w' none := by
  have hmk := fun w => make_none 74 130 Tryz.underlying74 (by kernel_rfl) w
  go_enter Tryz.func53, Tryz.ntmps53
  go_wp2
  go_loopg [3, 4] 0 (fun _ i _ wr => i = .int .i64 0 ∧ w.grownBy wr none)
  case atStart => exact ⟨rfl, by first | exact hg | exact grown_refl _ _ | exact grown_trans hg (World.grownBy_alloc _ _ none)⟩
  case round =>
    obtain ⟨rfl, hg⟩ := hrel
    go_wp2
    go_loopg [6, 7, 8] 0 (fun _ i _ _ wr => i = .int .i64 0 ∧ w.grownBy wr none)
    case atStart => exact ⟨rfl, by first | exact hg | exact grown_refl _ _ | exact grown_trans hg (World.grownBy_alloc _ _ none)⟩
    case round =>
      obtain ⟨rfl, hg⟩ := hrel
      go_wp2
      go_loopg [9, 10] 0 (fun _ i _ wr => i = .int .i64 0 ∧ w.grownBy wr none)
      case atStart => exact ⟨rfl, by first | exact hg | exact grown_refl _ _ | exact grown_trans hg (World.grownBy_alloc _ _ none)⟩
      case round =>
        obtain ⟨rfl, hg⟩ := hrel
        go_wp2
        go_loopg [11, 12, 13] 0 (fun _ i _ _ wr => i = .int .i64 0 ∧ w.grownBy wr none)
        case atStart => exact ⟨rfl, by first | exact hg | exact grown_refl _ _ | exact grown_trans hg (World.grownBy_alloc _ _ none)⟩
        case round =>
          obtain ⟨rfl, hg⟩ := hrel
          go_wp2
          go_loopg [14, 15] 0 (fun _ i _ wr => i = .int .i64 0 ∧ w.grownBy wr none)
          case atStart => exact ⟨rfl, by first | exact hg | exact grown_refl _ _ | exact grown_trans hg (World.grownBy_alloc _ _ none)⟩
          case round =>
            obtain ⟨rfl, hg⟩ := hrel
            go_wp2
            go_ret
            exact ⟨rfl, hg⟩

set_option maxRecDepth 100000 in
set_option maxHeartbeats 1000000 in
theorem nil_54 (w : World) : Calls Tryz.prog 54 #[.slice none 0 0] w fun e w' => e = .returned (.bool true) ∧ w.grownBy w' none := by
  have hmk := fun w => make_none 75 31 Tryz.underlying75 (by kernel_rfl) w
  go_enter Tryz.func54, Tryz.ntmps54
  go_wp2
  go_loopg [3, 4] 0 (fun _ i _ wr => i = .int .i64 0 ∧ w.grownBy wr none)
  case atStart => exact ⟨rfl, by first | exact hg | exact grown_refl _ _ | exact grown_trans hg (World.grownBy_alloc _ _ none)⟩
  case round =>
    obtain ⟨rfl, hg⟩ := hrel
    go_wp2
    go_loopg [6, 7, 8] 0 (fun _ i _ _ wr => i = .int .i64 0 ∧ w.grownBy wr none)
    case atStart => exact ⟨rfl, by first | exact hg | exact grown_refl _ _ | exact grown_trans hg (World.grownBy_alloc _ _ none)⟩
    case round =>
      obtain ⟨rfl, hg⟩ := hrel
      go_wp2
      go_loopg [9, 10] 0 (fun _ i _ wr => i = .int .i64 0 ∧ w.grownBy wr none)
      case atStart => exact ⟨rfl, by first | exact hg | exact grown_refl _ _ | exact grown_trans hg (World.grownBy_alloc _ _ none)⟩
      case round =>
        obtain ⟨rfl, hg⟩ := hrel
        go_wp2
        go_loopg [11, 12, 13] 0 (fun _ i _ _ wr => i = .int .i64 0 ∧ w.grownBy wr none)
        case atStart => exact ⟨rfl, by first | exact hg | exact grown_refl _ _ | exact grown_trans hg (World.grownBy_alloc _ _ none)⟩
        case round =>
          obtain ⟨rfl, hg⟩ := hrel
          go_wp2
          go_loopg [14, 15] 0 (fun _ i _ wr => i = .int .i64 0 ∧ w.grownBy wr none)
          case atStart => exact ⟨rfl, by first | exact hg | exact grown_refl _ _ | exact grown_trans hg (World.grownBy_alloc _ _ none)⟩
          case round =>
            obtain ⟨rfl, hg⟩ := hrel
            go_wp2
            go_ret
            exact ⟨rfl, hg⟩

set_option maxRecDepth 100000 in
set_option maxHeartbeats 1000000 in
theorem nil_55 (w : World) : Calls Tryz.prog 55 #[.slice none 0 0] w fun e w' => e = .returned (.bool true) ∧ w.grownBy w' none := by
  have hmk := fun w => make_none 76 133 Tryz.underlying76 (by kernel_rfl) w
  go_enter Tryz.func55, Tryz.ntmps55
  go_wp2
  go_loopg [3, 4] 0 (fun _ i _ wr => i = .int .i64 0 ∧ w.grownBy wr none)
  case atStart => exact ⟨rfl, by first | exact hg | exact grown_refl _ _ | exact grown_trans hg (World.grownBy_alloc _ _ none)⟩
  case round =>
    obtain ⟨rfl, hg⟩ := hrel
    go_wp2
    go_loopg [6, 7, 8] 0 (fun _ i _ _ wr => i = .int .i64 0 ∧ w.grownBy wr none)
    case atStart => exact ⟨rfl, by first | exact hg | exact grown_refl _ _ | exact grown_trans hg (World.grownBy_alloc _ _ none)⟩
    case round =>
      obtain ⟨rfl, hg⟩ := hrel
      go_wp2
      go_loopg [9, 10] 0 (fun _ i _ wr => i = .int .i64 0 ∧ w.grownBy wr none)
      case atStart => exact ⟨rfl, by first | exact hg | exact grown_refl _ _ | exact grown_trans hg (World.grownBy_alloc _ _ none)⟩
      case round =>
        obtain ⟨rfl, hg⟩ := hrel
        go_wp2
        go_loopg [11, 12, 13] 0 (fun _ i _ _ wr => i = .int .i64 0 ∧ w.grownBy wr none)
        case atStart => exact ⟨rfl, by first | exact hg | exact grown_refl _ _ | exact grown_trans hg (World.grownBy_alloc _ _ none)⟩
        case round =>
          obtain ⟨rfl, hg⟩ := hrel
          go_wp2
          go_loopg [14, 15] 0 (fun _ i _ wr => i = .int .i64 0 ∧ w.grownBy wr none)
          case atStart => exact ⟨rfl, by first | exact hg | exact grown_refl _ _ | exact grown_trans hg (World.grownBy_alloc _ _ none)⟩
          case round =>
            obtain ⟨rfl, hg⟩ := hrel
            go_wp2
            go_ret
            exact ⟨rfl, hg⟩

set_option maxRecDepth 100000 in
set_option maxHeartbeats 1000000 in
theorem nil_56 (w : World) : Calls Tryz.prog 56 #[.slice none 0 0] w fun e w' => e = .returned (.bool true) ∧ w.grownBy w' none := by
  have hmk := fun w => make_none 77 135 Tryz.underlying77 (by kernel_rfl) w
  go_enter Tryz.func56, Tryz.ntmps56
  go_wp2
  go_loopg [3, 4] 0 (fun _ i _ wr => i = .int .i64 0 ∧ w.grownBy wr none)
  case atStart => exact ⟨rfl, by first | exact hg | exact grown_refl _ _ | exact grown_trans hg (World.grownBy_alloc _ _ none)⟩
  case round =>
    obtain ⟨rfl, hg⟩ := hrel
    go_wp2
    go_loopg [6, 7, 8] 0 (fun _ i _ _ wr => i = .int .i64 0 ∧ w.grownBy wr none)
    case atStart => exact ⟨rfl, by first | exact hg | exact grown_refl _ _ | exact grown_trans hg (World.grownBy_alloc _ _ none)⟩
    case round =>
      obtain ⟨rfl, hg⟩ := hrel
      go_wp2
      go_loopg [9, 10] 0 (fun _ i _ wr => i = .int .i64 0 ∧ w.grownBy wr none)
      case atStart => exact ⟨rfl, by first | exact hg | exact grown_refl _ _ | exact grown_trans hg (World.grownBy_alloc _ _ none)⟩
      case round =>
        obtain ⟨rfl, hg⟩ := hrel
        go_wp2
        go_loopg [11, 12, 13] 0 (fun _ i _ _ wr => i = .int .i64 0 ∧ w.grownBy wr none)
        case atStart => exact ⟨rfl, by first | exact hg | exact grown_refl _ _ | exact grown_trans hg (World.grownBy_alloc _ _ none)⟩
        case round =>
          obtain ⟨rfl, hg⟩ := hrel
          go_wp2
          go_loopg [14, 15] 0 (fun _ i _ wr => i = .int .i64 0 ∧ w.grownBy wr none)
          case atStart => exact ⟨rfl, by first | exact hg | exact grown_refl _ _ | exact grown_trans hg (World.grownBy_alloc _ _ none)⟩
          case round =>
            obtain ⟨rfl, hg⟩ := hrel
            go_wp2
            go_ret
            exact ⟨rfl, hg⟩

set_option maxRecDepth 100000 in
set_option maxHeartbeats 1000000 in
theorem nil_57 (w : World) : Calls Tryz.prog 57 #[.slice none 0 0] w fun e w' => e = .returned (.bool true) ∧ w.grownBy w' none := by
  have hmk := fun w => make_none 43 33 Tryz.underlying43 (by kernel_rfl) w
  go_enter Tryz.func57, Tryz.ntmps57
  go_wp2
  go_loopg [3, 4] 0 (fun _ i _ wr => i = .int .i64 0 ∧ w.grownBy wr none)
  case atStart => exact ⟨rfl, by first | exact hg | exact grown_refl _ _ | exact grown_trans hg (World.grownBy_alloc _ _ none)⟩
  case round =>
    obtain ⟨rfl, hg⟩ := hrel
    go_wp2
    go_loopg [6, 7, 8] 0 (fun _ i _ _ wr => i = .int .i64 0 ∧ w.grownBy wr none)
    case atStart => exact ⟨rfl, by first | exact hg | exact grown_refl _ _ | exact grown_trans hg (World.grownBy_alloc _ _ none)⟩
    case round =>
      obtain ⟨rfl, hg⟩ := hrel
      go_wp2
      go_loopg [9, 10] 0 (fun _ i _ wr => i = .int .i64 0 ∧ w.grownBy wr none)
      case atStart => exact ⟨rfl, by first | exact hg | exact grown_refl _ _ | exact grown_trans hg (World.grownBy_alloc _ _ none)⟩
      case round =>
        obtain ⟨rfl, hg⟩ := hrel
        go_wp2
        go_loopg [11, 12, 13] 0 (fun _ i _ _ wr => i = .int .i64 0 ∧ w.grownBy wr none)
        case atStart => exact ⟨rfl, by first | exact hg | exact grown_refl _ _ | exact grown_trans hg (World.grownBy_alloc _ _ none)⟩
        case round =>
          obtain ⟨rfl, hg⟩ := hrel
          go_wp2
          go_loopg [14, 15] 0 (fun _ i _ wr => i = .int .i64 0 ∧ w.grownBy wr none)
          case atStart => exact ⟨rfl, by first | exact hg | exact grown_refl _ _ | exact grown_trans hg (World.grownBy_alloc _ _ none)⟩
          case round =>
            obtain ⟨rfl, hg⟩ := hrel
            go_wp2
            go_ret
            exact ⟨rfl, hg⟩

set_option maxRecDepth 100000 in
set_option maxHeartbeats 1000000 in
theorem nil_58 (w : World) : Calls Tryz.prog 58 #[.slice none 0 0] w fun e w' => e = .returned (.bool true) ∧ w.grownBy w' none := by
  have hmk := fun w => make_none 78 141 Tryz.underlying78 (by kernel_rfl) w
  go_enter Tryz.func58, Tryz.ntmps58
  go_wp2
  go_loopg [3, 4] 0 (fun _ i _ wr => i = .int .i64 0 ∧ w.grownBy wr none)
  case atStart => exact ⟨rfl, by first | exact hg | exact grown_refl _ _ | exact grown_trans hg (World.grownBy_alloc _ _ none)⟩
  case round =>
    obtain ⟨rfl, hg⟩ := hrel
    go_wp2
    go_loopg [6, 7, 8] 0 (fun _ i _ _ wr => i = .int .i64 0 ∧ w.grownBy wr none)
    case atStart => exact ⟨rfl, by first | exact hg | exact grown_refl _ _ | exact grown_trans hg (World.grownBy_alloc _ _ none)⟩
    case round =>
      obtain ⟨rfl, hg⟩ := hrel
      go_wp2
      go_loopg [9, 10] 0 (fun _ i _ wr => i = .int .i64 0 ∧ w.grownBy wr none)
      case atStart => exact ⟨rfl, by first | exact hg | exact grown_refl _ _ | exact grown_trans hg (World.grownBy_alloc _ _ none)⟩
      case round =>
        obtain ⟨rfl, hg⟩ := hrel
        go_wp2
        go_loopg [11, 12, 13] 0 (fun _ i _ _ wr => i = .int .i64 0 ∧ w.grownBy wr none)
        case atStart => exact ⟨rfl, by first | exact hg | exact grown_refl _ _ | exact grown_trans hg (World.grownBy_alloc _ _ none)⟩
        case round =>
          obtain ⟨rfl, hg⟩ := hrel
          go_wp2
          go_loopg [14, 15] 0 (fun _ i _ wr => i = .int .i64 0 ∧ w.grownBy wr none)
          case atStart => exact ⟨rfl, by first | exact hg | exact grown_refl _ _ | exact grown_trans hg (World.grownBy_alloc _ _ none)⟩
          case round =>
            obtain ⟨rfl, hg⟩ := hrel
            go_wp2
            go_ret
            exact ⟨rfl, hg⟩

set_option maxRecDepth 100000 in
set_option maxHeartbeats 1000000 in
theorem nil_59 (w : World) : Calls Tryz.prog 59 #[.slice none 0 0] w fun e w' => e = .returned (.bool true) ∧ w.grownBy w' none := by
  have hmk := fun w => make_none 79 146 Tryz.underlying79 (by kernel_rfl) w
  go_enter Tryz.func59, Tryz.ntmps59
  go_wp2
  go_loopg [3, 4] 0 (fun _ i _ wr => i = .int .i64 0 ∧ w.grownBy wr none)
  case atStart => exact ⟨rfl, by first | exact hg | exact grown_refl _ _ | exact grown_trans hg (World.grownBy_alloc _ _ none)⟩
  case round =>
    obtain ⟨rfl, hg⟩ := hrel
    go_wp2
    go_loopg [6, 7, 8] 0 (fun _ i _ _ wr => i = .int .i64 0 ∧ w.grownBy wr none)
    case atStart => exact ⟨rfl, by first | exact hg | exact grown_refl _ _ | exact grown_trans hg (World.grownBy_alloc _ _ none)⟩
    case round =>
      obtain ⟨rfl, hg⟩ := hrel
      go_wp2
      go_loopg [9, 10] 0 (fun _ i _ wr => i = .int .i64 0 ∧ w.grownBy wr none)
      case atStart => exact ⟨rfl, by first | exact hg | exact grown_refl _ _ | exact grown_trans hg (World.grownBy_alloc _ _ none)⟩
      case round =>
        obtain ⟨rfl, hg⟩ := hrel
        go_wp2
        go_loopg [11, 12, 13] 0 (fun _ i _ _ wr => i = .int .i64 0 ∧ w.grownBy wr none)
        case atStart => exact ⟨rfl, by first | exact hg | exact grown_refl _ _ | exact grown_trans hg (World.grownBy_alloc _ _ none)⟩
        case round =>
          obtain ⟨rfl, hg⟩ := hrel
          go_wp2
          go_loopg [14, 15] 0 (fun _ i _ wr => i = .int .i64 0 ∧ w.grownBy wr none)
          case atStart => exact ⟨rfl, by first | exact hg | exact grown_refl _ _ | exact grown_trans hg (World.grownBy_alloc _ _ none)⟩
          case round =>
            obtain ⟨rfl, hg⟩ := hrel
            go_wp2
            go_ret
            exact ⟨rfl, hg⟩

set_option maxRecDepth 100000 in
set_option maxHeartbeats 1000000 in
theorem nil_60 (w : World) : Calls Tryz.prog 60 #[.slice none 0 0] w fun e w' => e = .returned (.bool true) ∧ w.grownBy w' none := by
  have hmk := fun w => make_none 80 148 Tryz.underlying80 (by kernel_rfl) w
  go_enter Tryz.func60, Tryz.ntmps60
  go_wp2
  go_loopg [3, 4] 0 (fun _ i _ wr => i = .int .i64 0 ∧ w.grownBy wr none)
  case atStart => exact ⟨rfl, by first | exact hg | exact grown_refl _ _ | exact grown_trans hg (World.grownBy_alloc _ _ none)⟩
  case round =>
    obtain ⟨rfl, hg⟩ := hrel
    go_wp2
    go_loopg [6, 7, 8] 0 (fun _ i _ _ wr => i = .int .i64 0 ∧ w.grownBy wr none)
    case atStart => exact ⟨rfl, by first | exact hg | exact grown_refl _ _ | exact grown_trans hg (World.grownBy_alloc _ _ none)⟩
    case round =>
      obtain ⟨rfl, hg⟩ := hrel
      go_wp2
      go_loopg [9, 10] 0 (fun _ i _ wr => i = .int .i64 0 ∧ w.grownBy wr none)
      case atStart => exact ⟨rfl, by first | exact hg | exact grown_refl _ _ | exact grown_trans hg (World.grownBy_alloc _ _ none)⟩
      case round =>
        obtain ⟨rfl, hg⟩ := hrel
        go_wp2
        go_loopg [11, 12, 13] 0 (fun _ i _ _ wr => i = .int .i64 0 ∧ w.grownBy wr none)
        case atStart => exact ⟨rfl, by first | exact hg | exact grown_refl _ _ | exact grown_trans hg (World.grownBy_alloc _ _ none)⟩
        case round =>
          obtain ⟨rfl, hg⟩ := hrel
          go_wp2
          go_loopg [14, 15] 0 (fun _ i _ wr => i = .int .i64 0 ∧ w.grownBy wr none)
          case atStart => exact ⟨rfl, by first | exact hg | exact grown_refl _ _ | exact grown_trans hg (World.grownBy_alloc _ _ none)⟩
          case round =>
            obtain ⟨rfl, hg⟩ := hrel
            go_wp2
            go_ret
            exact ⟨rfl, hg⟩

set_option maxRecDepth 100000 in
set_option maxHeartbeats 1000000 in
theorem nil_61 (w : World) : Calls Tryz.prog 61 #[.slice none 0 0] w fun e w' => e = .returned (.bool true) ∧ w.grownBy w' none := by
  have hmk := fun w => make_none 81 154 Tryz.underlying81 (by kernel_rfl) w
  go_enter Tryz.func61, Tryz.ntmps61
  go_wp2
  go_loopg [3, 4] 0 (fun _ i _ wr => i = .int .i64 0 ∧ w.grownBy wr none)
  case atStart => exact ⟨rfl, by first | exact hg | exact grown_refl _ _ | exact grown_trans hg (World.grownBy_alloc _ _ none)⟩
  case round =>
    obtain ⟨rfl, hg⟩ := hrel
    go_wp2
    go_loopg [6, 7, 8] 0 (fun _ i _ _ wr => i = .int .i64 0 ∧ w.grownBy wr none)
    case atStart => exact ⟨rfl, by first | exact hg | exact grown_refl _ _ | exact grown_trans hg (World.grownBy_alloc _ _ none)⟩
    case round =>
      obtain ⟨rfl, hg⟩ := hrel
      go_wp2
      go_loopg [9, 10] 0 (fun _ i _ wr => i = .int .i64 0 ∧ w.grownBy wr none)
      case atStart => exact ⟨rfl, by first | exact hg | exact grown_refl _ _ | exact grown_trans hg (World.grownBy_alloc _ _ none)⟩
      case round =>
        obtain ⟨rfl, hg⟩ := hrel
        go_wp2
        go_loopg [11, 12, 13] 0 (fun _ i _ _ wr => i = .int .i64 0 ∧ w.grownBy wr none)
        case atStart => exact ⟨rfl, by first | exact hg | exact grown_refl _ _ | exact grown_trans hg (World.grownBy_alloc _ _ none)⟩
        case round =>
          obtain ⟨rfl, hg⟩ := hrel
          go_wp2
          go_loopg [14, 15] 0 (fun _ i _ wr => i = .int .i64 0 ∧ w.grownBy wr none)
          case atStart => exact ⟨rfl, by first | exact hg | exact grown_refl _ _ | exact grown_trans hg (World.grownBy_alloc _ _ none)⟩
          case round =>
            obtain ⟨rfl, hg⟩ := hrel
            go_wp2
            go_ret
            exact ⟨rfl, hg⟩

set_option maxRecDepth 100000 in
set_option maxHeartbeats 1000000 in
theorem nil_62 (w : World) : Calls Tryz.prog 62 #[.slice none 0 0] w fun e w' => e = .returned (.bool true) ∧ w.grownBy w' none := by
  have hmk := fun w => make_none 82 158 Tryz.underlying82 (by kernel_rfl) w
  go_enter Tryz.func62, Tryz.ntmps62
  go_wp2
  go_loopg [3, 4] 0 (fun _ i _ wr => i = .int .i64 0 ∧ w.grownBy wr none)
  case atStart => exact ⟨rfl, by first | exact hg | exact grown_refl _ _ | exact grown_trans hg (World.grownBy_alloc _ _ none)⟩
  case round =>
    obtain ⟨rfl, hg⟩ := hrel
    go_wp2
    go_loopg [6, 7, 8] 0 (fun _ i _ _ wr => i = .int .i64 0 ∧ w.grownBy wr none)
    case atStart => exact ⟨rfl, by first | exact hg | exact grown_refl _ _ | exact grown_trans hg (World.grownBy_alloc _ _ none)⟩
    case round =>
      obtain ⟨rfl, hg⟩ := hrel
      go_wp2
      go_loopg [9, 10] 0 (fun _ i _ wr => i = .int .i64 0 ∧ w.grownBy wr none)
      case atStart => exact ⟨rfl, by first | exact hg | exact grown_refl _ _ | exact grown_trans hg (World.grownBy_alloc _ _ none)⟩
      case round =>
        obtain ⟨rfl, hg⟩ := hrel
        go_wp2
        go_loopg [11, 12, 13] 0 (fun _ i _ _ wr => i = .int .i64 0 ∧ w.grownBy wr none)
        case atStart => exact ⟨rfl, by first | exact hg | exact grown_refl _ _ | exact grown_trans hg (World.grownBy_alloc _ _ none)⟩
        case round =>
          obtain ⟨rfl, hg⟩ := hrel
          go_wp2
          go_loopg [14, 15] 0 (fun _ i _ wr => i = .int .i64 0 ∧ w.grownBy wr none)
          case atStart => exact ⟨rfl, by first | exact hg | exact grown_refl _ _ | exact grown_trans hg (World.grownBy_alloc _ _ none)⟩
          case round =>
            obtain ⟨rfl, hg⟩ := hrel
            go_wp2
            go_ret
            exact ⟨rfl, hg⟩

set_option maxRecDepth 100000 in
set_option maxHeartbeats 1000000 in
theorem nil_63 (w : World) : Calls Tryz.prog 63 #[.slice none 0 0] w fun e w' => e = .returned (.bool true) ∧ w.grownBy w' none := by
  have hmk := fun w => make_none 83 163 Tryz.underlying83 (by kernel_rfl) w
  go_enter Tryz.func63, Tryz.ntmps63
  go_wp2
  go_loopg [3, 4] 0 (fun _ i _ wr => i = .int .i64 0 ∧ w.grownBy wr none)
  case atStart => exact ⟨rfl, by first | exact hg | exact grown_refl _ _ | exact grown_trans hg (World.grownBy_alloc _ _ none)⟩
  case round =>
    obtain ⟨rfl, hg⟩ := hrel
    go_wp2
    go_loopg [6, 7, 8] 0 (fun _ i _ _ wr => i = .int .i64 0 ∧ w.grownBy wr none)
    case atStart => exact ⟨rfl, by first | exact hg | exact grown_refl _ _ | exact grown_trans hg (World.grownBy_alloc _ _ none)⟩
    case round =>
      obtain ⟨rfl, hg⟩ := hrel
      go_wp2
      go_loopg [9, 10] 0 (fun _ i _ wr => i = .int .i64 0 ∧ w.grownBy wr none)
      case atStart => exact ⟨rfl, by first | exact hg | exact grown_refl _ _ | exact grown_trans hg (World.grownBy_alloc _ _ none)⟩
      case round =>
        obtain ⟨rfl, hg⟩ := hrel
        go_wp2
        go_loopg [11, 12, 13] 0 (fun _ i _ _ wr => i = .int .i64 0 ∧ w.grownBy wr none)
        case atStart => exact ⟨rfl, by first | exact hg | exact grown_refl _ _ | exact grown_trans hg (World.grownBy_alloc _ _ none)⟩
        case round =>
          obtain ⟨rfl, hg⟩ := hrel
          go_wp2
          go_loopg [14, 15] 0 (fun _ i _ wr => i = .int .i64 0 ∧ w.grownBy wr none)
          case atStart => exact ⟨rfl, by first | exact hg | exact grown_refl _ _ | exact grown_trans hg (World.grownBy_alloc _ _ none)⟩
          case round =>
            obtain ⟨rfl, hg⟩ := hrel
            go_wp2
            go_ret
            exact ⟨rfl, hg⟩

set_option maxRecDepth 100000 in
set_option maxHeartbeats 1000000 in
theorem nil_64 (w : World) : Calls Tryz.prog 64 #[.slice none 0 0] w fun e w' => e = .returned (.bool true) ∧ w.grownBy w' none := by
  have hmk := fun w => make_none 84 167 Tryz.underlying84 (by kernel_rfl) w
  go_enter Tryz.func64, Tryz.ntmps64
  go_wp2
  go_loopg [3, 4] 0 (fun _ i _ wr => i = .int .i64 0 ∧ w.grownBy wr none)
  case atStart => exact ⟨rfl, by first | exact hg | exact grown_refl _ _ | exact grown_trans hg (World.grownBy_alloc _ _ none)⟩
  case round =>
    obtain ⟨rfl, hg⟩ := hrel
    go_wp2
    go_loopg [6, 7, 8] 0 (fun _ i _ _ wr => i = .int .i64 0 ∧ w.grownBy wr none)
    case atStart => exact ⟨rfl, by first | exact hg | exact grown_refl _ _ | exact grown_trans hg (World.grownBy_alloc _ _ none)⟩
    case round =>
      obtain ⟨rfl, hg⟩ := hrel
      go_wp2
      go_loopg [9, 10] 0 (fun _ i _ wr => i = .int .i64 0 ∧ w.grownBy wr none)
      case atStart => exact ⟨rfl, by first | exact hg | exact grown_refl _ _ | exact grown_trans hg (World.grownBy_alloc _ _ none)⟩
      case round =>
        obtain ⟨rfl, hg⟩ := hrel
        go_wp2
        go_loopg [11, 12, 13] 0 (fun _ i _ _ wr => i = .int .i64 0 ∧ w.grownBy wr none)
        case atStart => exact ⟨rfl, by first | exact hg | exact grown_refl _ _ | exact grown_trans hg (World.grownBy_alloc _ _ none)⟩
        case round =>
          obtain ⟨rfl, hg⟩ := hrel
          go_wp2
          go_loopg [14, 15] 0 (fun _ i _ wr => i = .int .i64 0 ∧ w.grownBy wr none)
          case atStart => exact ⟨rfl, by first | exact hg | exact grown_refl _ _ | exact grown_trans hg (World.grownBy_alloc _ _ none)⟩
          case round =>
            obtain ⟨rfl, hg⟩ := hrel
            go_wp2
            go_ret
            exact ⟨rfl, hg⟩

set_option maxRecDepth 100000 in
set_option maxHeartbeats 1000000 in
theorem nil_65 (w : World) : Calls Tryz.prog 65 #[.slice none 0 0] w fun e w' => e = .returned (.bool true) ∧ w.grownBy w' none := by
  have hmk := fun w => make_none 85 172 Tryz.underlying85 (by kernel_rfl) w
  go_enter Tryz.func65, Tryz.ntmps65
  go_wp2
  go_loopg [3, 4] 0 (fun _ i _ wr => i = .int .i64 0 ∧ w.grownBy wr none)
  case atStart => exact ⟨rfl, by first | exact hg | exact grown_refl _ _ | exact grown_trans hg (World.grownBy_alloc _ _ none)⟩
  case round =>
    obtain ⟨rfl, hg⟩ := hrel
    go_wp2
    go_loopg [6, 7, 8] 0 (fun _ i _ _ wr => i = .int .i64 0 ∧ w.grownBy wr none)
    case atStart => exact ⟨rfl, by first | exact hg | exact grown_refl _ _ | exact grown_trans hg (World.grownBy_alloc _ _ none)⟩
    case round =>
      obtain ⟨rfl, hg⟩ := hrel
      go_wp2
      go_loopg [9, 10] 0 (fun _ i _ wr => i = .int .i64 0 ∧ w.grownBy wr none)
      case atStart => exact ⟨rfl, by first | exact hg | exact grown_refl _ _ | exact grown_trans hg (World.grownBy_alloc _ _ none)⟩
      case round =>
        obtain ⟨rfl, hg⟩ := hrel
        go_wp2
        go_loopg [11, 12, 13] 0 (fun _ i _ _ wr => i = .int .i64 0 ∧ w.grownBy wr none)
        case atStart => exact ⟨rfl, by first | exact hg | exact grown_refl _ _ | exact grown_trans hg (World.grownBy_alloc _ _ none)⟩
        case round =>
          obtain ⟨rfl, hg⟩ := hrel
          go_wp2
          go_loopg [14, 15] 0 (fun _ i _ wr => i = .int .i64 0 ∧ w.grownBy wr none)
          case atStart => exact ⟨rfl, by first | exact hg | exact grown_refl _ _ | exact grown_trans hg (World.grownBy_alloc _ _ none)⟩
          case round =>
            obtain ⟨rfl, hg⟩ := hrel
            go_wp2
            go_ret
            exact ⟨rfl, hg⟩

set_option maxRecDepth 100000 in
set_option maxHeartbeats 1000000 in
theorem nil_66 (w : World) : Calls Tryz.prog 66 #[.slice none 0 0] w fun e w' => e = .returned (.bool true) ∧ w.grownBy w' none := by
  have hmk := fun w => make_none 86 176 Tryz.underlying86 (by kernel_rfl) w
  go_enter Tryz.func66, Tryz.ntmps66
  go_wp2
  go_loopg [3, 4] 0 (fun _ i _ wr => i = .int .i64 0 ∧ w.grownBy wr none)
  case atStart => exact ⟨rfl, by first | exact hg | exact grown_refl _ _ | exact grown_trans hg (World.grownBy_alloc _ _ none)⟩
  case round =>
    obtain ⟨rfl, hg⟩ := hrel
    go_wp2
    go_loopg [6, 7, 8] 0 (fun _ i _ _ wr => i = .int .i64 0 ∧ w.grownBy wr none)
    case atStart => exact ⟨rfl, by first | exact hg | exact grown_refl _ _ | exact grown_trans hg (World.grownBy_alloc _ _ none)⟩
    case round =>
      obtain ⟨rfl, hg⟩ := hrel
      go_wp2
      go_loopg [9, 10] 0 (fun _ i _ wr => i = .int .i64 0 ∧ w.grownBy wr none)
      case atStart => exact ⟨rfl, by first | exact hg | exact grown_refl _ _ | exact grown_trans hg (World.grownBy_alloc _ _ none)⟩
      case round =>
        obtain ⟨rfl, hg⟩ := hrel
        go_wp2
        go_loopg [11, 12, 13] 0 (fun _ i _ _ wr => i = .int .i64 0 ∧ w.grownBy wr none)
        case atStart => exact ⟨rfl, by first | exact hg | exact grown_refl _ _ | exact grown_trans hg (World.grownBy_alloc _ _ none)⟩
        case round =>
          obtain ⟨rfl, hg⟩ := hrel
          go_wp2
          go_loopg [14, 15] 0 (fun _ i _ wr => i = .int .i64 0 ∧ w.grownBy wr none)
          case atStart => exact ⟨rfl, by first | exact hg | exact grown_refl _ _ | exact grown_trans hg (World.grownBy_alloc _ _ none)⟩
          case round =>
            obtain ⟨rfl, hg⟩ := hrel
            go_wp2
            go_ret
            exact ⟨rfl, hg⟩

set_option maxRecDepth 100000 in
set_option maxHeartbeats 1000000 in
theorem nil_67 (w : World) : Calls Tryz.prog 67 #[.slice none 0 0] w fun e w' => e = .returned (.bool true) ∧ w.grownBy w' none := by
  have hmk := fun w => make_none 87 180 Tryz.underlying87 (by kernel_rfl) w
  go_enter Tryz.func67, Tryz.ntmps67
  go_wp2
  go_loopg [3, 4] 0 (fun _ i _ wr => i = .int .i64 0 ∧ w.grownBy wr none)
  case atStart => exact ⟨rfl, by first | exact hg | exact grown_refl _ _ | exact grown_trans hg (World.grownBy_alloc _ _ none)⟩
  case round =>
    obtain ⟨rfl, hg⟩ := hrel
    go_wp2
    go_loopg [6, 7, 8] 0 (fun _ i _ _ wr => i = .int .i64 0 ∧ w.grownBy wr none)
    case atStart => exact ⟨rfl, by first | exact hg | exact grown_refl _ _ | exact grown_trans hg (World.grownBy_alloc _ _ none)⟩
    case round =>
      obtain ⟨rfl, hg⟩ := hrel
      go_wp2
      go_loopg [9, 10] 0 (fun _ i _ wr => i = .int .i64 0 ∧ w.grownBy wr none)
      case atStart => exact ⟨rfl, by first | exact hg | exact grown_refl _ _ | exact grown_trans hg (World.grownBy_alloc _ _ none)⟩
      case round =>
        obtain ⟨rfl, hg⟩ := hrel
        go_wp2
        go_loopg [11, 12, 13] 0 (fun _ i _ _ wr => i = .int .i64 0 ∧ w.grownBy wr none)
        case atStart => exact ⟨rfl, by first | exact hg | exact grown_refl _ _ | exact grown_trans hg (World.grownBy_alloc _ _ none)⟩
        case round =>
          obtain ⟨rfl, hg⟩ := hrel
          go_wp2
          go_loopg [14, 15] 0 (fun _ i _ wr => i = .int .i64 0 ∧ w.grownBy wr none)
          case atStart => exact ⟨rfl, by first | exact hg | exact grown_refl _ _ | exact grown_trans hg (World.grownBy_alloc _ _ none)⟩
          case round =>
            obtain ⟨rfl, hg⟩ := hrel
            go_wp2
            go_ret
            exact ⟨rfl, hg⟩

set_option maxRecDepth 100000 in
set_option maxHeartbeats 1000000 in
theorem nil_68 (w : World) : Calls Tryz.prog 68 #[.slice none 0 0] w fun e w' => e = .returned (.bool true) ∧ w.grownBy w' none := by
  have hmk := fun w => make_none 88 184 Tryz.underlying88 (by kernel_rfl) w
  go_enter Tryz.func68, Tryz.ntmps68
  go_wp2
  go_loopg [3, 4] 0 (fun _ i _ wr => i = .int .i64 0 ∧ w.grownBy wr none)
  case atStart => exact ⟨rfl, by first | exact hg | exact grown_refl _ _ | exact grown_trans hg (World.grownBy_alloc _ _ none)⟩
  case round =>
    obtain ⟨rfl, hg⟩ := hrel
    go_wp2
    go_loopg [6, 7, 8] 0 (fun _ i _ _ wr => i = .int .i64 0 ∧ w.grownBy wr none)
    case atStart => exact ⟨rfl, by first | exact hg | exact grown_refl _ _ | exact grown_trans hg (World.grownBy_alloc _ _ none)⟩
    case round =>
      obtain ⟨rfl, hg⟩ := hrel
      go_wp2
      go_loopg [9, 10] 0 (fun _ i _ wr => i = .int .i64 0 ∧ w.grownBy wr none)
      case atStart => exact ⟨rfl, by first | exact hg | exact grown_refl _ _ | exact grown_trans hg (World.grownBy_alloc _ _ none)⟩
      case round =>
        obtain ⟨rfl, hg⟩ := hrel
        go_wp2
        go_loopg [11, 12, 13] 0 (fun _ i _ _ wr => i = .int .i64 0 ∧ w.grownBy wr none)
        case atStart => exact ⟨rfl, by first | exact hg | exact grown_refl _ _ | exact grown_trans hg (World.grownBy_alloc _ _ none)⟩
        case round =>
          obtain ⟨rfl, hg⟩ := hrel
          go_wp2
          go_loopg [14, 15] 0 (fun _ i _ wr => i = .int .i64 0 ∧ w.grownBy wr none)
          case atStart => exact ⟨rfl, by first | exact hg | exact grown_refl _ _ | exact grown_trans hg (World.grownBy_alloc _ _ none)⟩
          case round =>
            obtain ⟨rfl, hg⟩ := hrel
            go_wp2
            go_ret
            exact ⟨rfl, hg⟩
end Go.Proofs.YtnnmaknjhfjojaaGreatDoor.Ap
/- The contract of the bag's apart, where it holds lists of spans alone. -/
namespace Go.Proofs.YtnnmaknjhfjojaaGreatDoor.Af
open Go.RowKit
open Ap (Kp GrownT grown_below below_grown cell_new ownsRow_le)
attribute [local go_sem ↓] Go.wp_at_zero Go.wp_at_succ

/-- The cells of a bag: nothing but lists of spans. -/
def bagC (v : Value) : List Value := List.replicate 7 (.slice none 0 0) ++ v :: List.replicate 11 (.slice none 0 0)
theorem bagC_at (v : Value) : (bagC v)[7]? = some v := rfl
theorem bagC_set (v v' : Value) : (bagC v).set 7 v' = bagC v' := rfl

set_option maxRecDepth 100000 in
set_option maxHeartbeats 4000000 in
theorem apart_any (b B K L cap : Nat) (v : Nat → Value) (n : Nat → Nat) (f : Nat → List Value) (T : Nat → Prop) (w0 w : World) (hF : Fl w B K (.slice (some ⟨L, 0, none⟩) K cap) v n f) (hG : Kp T w0 w b (bagC (.slice (some ⟨L, 0, none⟩) K cap)).toArray) (hT : ∀ i, i < K → ∀ k, (v i).ownBlock = some k → w0.heap.size ≤ k ∨ T k) (hK : K ≤ 400000) (hn : ∀ k, k < K → n k ≤ 1000000) (hBw : B ≤ w.heap.size) :
    Calls Tryz.prog 35 #[.pointer (some ⟨b, 0, none⟩)] w fun e w' => e = .returned (.bool true) ∧ GrownT T w0 w' := by
  have HF := hide hF
  have H0 := hide hG
  have HN := hide hn
  have HT := hide hT
  have S0 : w.heap.size ≤ w.heap.size := Nat.le_refl _
  clear hF hG hn hT
  go_enter Tryz.func35, Tryz.ntmps35
  have c0 : w.cell? ⟨b, 0, none⟩ = some (.slice none 0 0) := by rw [cell_row H0.out.2]; rfl
  go_wp2_with fail
  refine (Ap.nil_50 _).mono ?_
  rintro e w1 ⟨rfl, hg⟩
  have H1 := hide (H0.out.new hg)
  have HF := hide (HF.out.kept hg)
  have S1 : w.heap.size ≤ w1.heap.size := Nat.le_trans S0 hg.size
  clear hg c0 H0
  have c1 : w1.cell? ⟨b, 1, none⟩ = some (.slice none 0 0) := by rw [cell_row H1.out.2]; rfl
  go_wp2_with fail
  refine (Ap.nil_51 _).mono ?_
  rintro e w2 ⟨rfl, hg⟩
  have H2 := hide (H1.out.new hg)
  have HF := hide (HF.out.kept hg)
  have S2 : w.heap.size ≤ w2.heap.size := Nat.le_trans S1 hg.size
  clear hg c1 H1
  have c2 : w2.cell? ⟨b, 2, none⟩ = some (.slice none 0 0) := by rw [cell_row H2.out.2]; rfl
  go_wp2_with fail
  refine (Ap.nil_52 _).mono ?_
  rintro e w3 ⟨rfl, hg⟩
  have H3 := hide (H2.out.new hg)
  have HF := hide (HF.out.kept hg)
  have S3 : w.heap.size ≤ w3.heap.size := Nat.le_trans S2 hg.size
  clear hg c2 H2
  have c3 : w3.cell? ⟨b, 3, none⟩ = some (.slice none 0 0) := by rw [cell_row H3.out.2]; rfl
  go_wp2_with fail
  refine (Ap.nil_53 _).mono ?_
  rintro e w4 ⟨rfl, hg⟩
  have H4 := hide (H3.out.new hg)
  have HF := hide (HF.out.kept hg)
  have S4 : w.heap.size ≤ w4.heap.size := Nat.le_trans S3 hg.size
  clear hg c3 H3
  have c4 : w4.cell? ⟨b, 4, none⟩ = some (.slice none 0 0) := by rw [cell_row H4.out.2]; rfl
  go_wp2_with fail
  refine (Ap.nil_54 _).mono ?_
  rintro e w5 ⟨rfl, hg⟩
  have H5 := hide (H4.out.new hg)
  have HF := hide (HF.out.kept hg)
  have S5 : w.heap.size ≤ w5.heap.size := Nat.le_trans S4 hg.size
  clear hg c4 H4
  have c5 : w5.cell? ⟨b, 5, none⟩ = some (.slice none 0 0) := by rw [cell_row H5.out.2]; rfl
  go_wp2_with fail
  refine (Ap.nil_55 _).mono ?_
  rintro e w6 ⟨rfl, hg⟩
  have H6 := hide (H5.out.new hg)
  have HF := hide (HF.out.kept hg)
  have S6 : w.heap.size ≤ w6.heap.size := Nat.le_trans S5 hg.size
  clear hg c5 H5
  have c6 : w6.cell? ⟨b, 6, none⟩ = some (.slice none 0 0) := by rw [cell_row H6.out.2]; rfl
  go_wp2_with fail
  refine (Ap.nil_56 _).mono ?_
  rintro e w7 ⟨rfl, hg⟩
  have H7 := hide (H6.out.new hg)
  have HF := hide (HF.out.kept hg)
  have S7 : w.heap.size ≤ w7.heap.size := Nat.le_trans S6 hg.size
  clear hg c6 H6
  have c7 : w7.cell? ⟨b, 7, none⟩ = some (.slice (some ⟨L, 0, none⟩) K cap) := by rw [cell_row H7.out.2]; exact bagC_at _
  go_wp2_with fail
  refine (flat_any B K L cap v n f T w0 w7 b _ HF.out H7.out HT.out hK HN.out (Nat.le_trans hBw S7)).mono ?_
  rintro e w8 ⟨rfl, hk⟩
  have H8 := hide hk
  clear hk c7 H7 HF
  have c8 : w8.cell? ⟨b, 8, none⟩ = some (.slice none 0 0) := by rw [cell_row H8.out.2]; rfl
  go_wp2_with fail
  refine (Ap.nil_58 _).mono ?_
  rintro e w9 ⟨rfl, hg⟩
  have H9 := hide (H8.out.new hg)
  clear hg c8 H8
  have c9 : w9.cell? ⟨b, 9, none⟩ = some (.slice none 0 0) := by rw [cell_row H9.out.2]; rfl
  go_wp2_with fail
  refine (Ap.nil_59 _).mono ?_
  rintro e w10 ⟨rfl, hg⟩
  have H10 := hide (H9.out.new hg)
  clear hg c9 H9
  have c10 : w10.cell? ⟨b, 10, none⟩ = some (.slice none 0 0) := by rw [cell_row H10.out.2]; rfl
  go_wp2_with fail
  refine (Ap.nil_60 _).mono ?_
  rintro e w11 ⟨rfl, hg⟩
  have H11 := hide (H10.out.new hg)
  clear hg c10 H10
  have c11 : w11.cell? ⟨b, 11, none⟩ = some (.slice none 0 0) := by rw [cell_row H11.out.2]; rfl
  go_wp2_with fail
  refine (Ap.nil_61 _).mono ?_
  rintro e w12 ⟨rfl, hg⟩
  have H12 := hide (H11.out.new hg)
  clear hg c11 H11
  have c12 : w12.cell? ⟨b, 12, none⟩ = some (.slice none 0 0) := by rw [cell_row H12.out.2]; rfl
  go_wp2_with fail
  refine (Ap.nil_62 _).mono ?_
  rintro e w13 ⟨rfl, hg⟩
  have H13 := hide (H12.out.new hg)
  clear hg c12 H12
  have c13 : w13.cell? ⟨b, 13, none⟩ = some (.slice none 0 0) := by rw [cell_row H13.out.2]; rfl
  go_wp2_with fail
  refine (Ap.nil_63 _).mono ?_
  rintro e w14 ⟨rfl, hg⟩
  have H14 := hide (H13.out.new hg)
  clear hg c13 H13
  have c14 : w14.cell? ⟨b, 14, none⟩ = some (.slice none 0 0) := by rw [cell_row H14.out.2]; rfl
  go_wp2_with fail
  refine (Ap.nil_64 _).mono ?_
  rintro e w15 ⟨rfl, hg⟩
  have H15 := hide (H14.out.new hg)
  clear hg c14 H14
  have c15 : w15.cell? ⟨b, 15, none⟩ = some (.slice none 0 0) := by rw [cell_row H15.out.2]; rfl
  go_wp2_with fail
  refine (Ap.nil_65 _).mono ?_
  rintro e w16 ⟨rfl, hg⟩
  have H16 := hide (H15.out.new hg)
  clear hg c15 H15
  have c16 : w16.cell? ⟨b, 16, none⟩ = some (.slice none 0 0) := by rw [cell_row H16.out.2]; rfl
  go_wp2_with fail
  refine (Ap.nil_66 _).mono ?_
  rintro e w17 ⟨rfl, hg⟩
  have H17 := hide (H16.out.new hg)
  clear hg c16 H16
  have c17 : w17.cell? ⟨b, 17, none⟩ = some (.slice none 0 0) := by rw [cell_row H17.out.2]; rfl
  go_wp2_with fail
  refine (Ap.nil_67 _).mono ?_
  rintro e w18 ⟨rfl, hg⟩
  have H18 := hide (H17.out.new hg)
  clear hg c17 H17
  have c18 : w18.cell? ⟨b, 18, none⟩ = some (.slice none 0 0) := by rw [cell_row H18.out.2]; rfl
  go_wp2_with fail
  refine (Ap.nil_68 _).mono ?_
  rintro e w19 ⟨rfl, hg⟩
  have H19 := hide (H18.out.new hg)
  clear hg c18 H18
  go_wp2
  go_ret
  exact ⟨rfl, H19.out.1⟩
end Go.Proofs.YtnnmaknjhfjojaaGreatDoor.Af
/- The contract of ApartSpans. -/
namespace Go.Proofs.YtnnmaknjhfjojaaGreatDoor.Af
open Go.RowKit
open Ap (Kp GrownT grown_below below_grown cell_new ownsRow_le)
attribute [local go_sem ↓] Go.wp_at_zero Go.wp_at_succ

theorem lists_append {w : World} {ops : Array Oper} {rest : List Oper} {o : Oper} {a : Act} {Q : Exit → Act → World → Prop} (hgd : o.guard = none) (s x : Operand)
    (ho : o.op = .call { callee := .builtin .append, args := #[s, x], argTypes := #[43, 43] }) (base : Nat) (v : Value) (n : Nat) (xs : List Value) (hs : a.eval s = v) (hown : w.ownsRow base 33 1 v n xs)
    (ad : Addr) (c : Nat) (y : Value) (hx : a.eval x = .slice (some ad) 1 c) (hy : y.oneCell' = true) (hcell : w.cell? ad = some y) (hoff : ad.add 0 = ad) (hbytes : n ≤ 400000) (hbase : base ≤ w.heap.size)
    (h : ∀ v' w', w'.ownsRow base 33 1 v' (n + 1) (xs ++ [y]) → w.grownBy w' v.ownBlock → wpList Tryz.prog ops Q rest (a.put o.dst v') w') : wpList Tryz.prog ops Q (o :: rest) a w := by
  obtain ⟨i0, hi, hz0, hz1, hz2⟩ := info_parts Tryz.info33
  refine wpList_append_own _ hgd s x 43 ho base 33 i0 (.slice none 0 0) 1 24 Tryz.underlying43 hi hz0 hz1 hz2 rfl (by decide) v n xs hs hown ad 1 c [y] hx rfl ?_ ?_ (by unfold maxLen; omega) (by omega) hbase (fun v' w' h1 h2 _ => h v' w' h1 h2)
  · intro j u hu
    cases j with
    | zero => simp at hu; rw [hoff, ← hu]; exact hcell
    | succ j => simp at hu
  · intro u hu; simp at hu; rw [hu]; exact hy

set_option maxHeartbeats 1000000 in
theorem put_any (b B : Nat) (lsv : Value) (K : Nat) (vs : List Value) (ao : Option Addr) (n c : Nat) (w : World) (hb : w.heap[b]? = some (.cells (bagC lsv).toArray 90 (0, 0))) (hown : w.ownsRow B 33 1 lsv K vs) (hK : K ≤ 400000) (hB : B ≤ w.heap.size) (hBb : B ≤ b) :
    Calls Tryz.prog 34 #[.pointer (some ⟨b, 0, none⟩), .slice ao n c] w fun e w' => e = .returned (.tuple #[]) ∧ ∃ lsv', w'.heap[b]? = some (.cells (bagC lsv').toArray 90 (0, 0)) ∧ w'.ownsRow B 33 1 lsv' (K + 1) (vs ++ [.slice ao n c]) ∧ Below B w w' := by
  have c4 : w.cell? ⟨b, 7, none⟩ = some lsv := by rw [cell_row hb]; exact bagC_at _
  have H := hide (And.intro hb hown)
  have hlt := row_lt hb
  obtain ⟨al, cl, hl⟩ : ∃ al cl, lsv = .slice al K cl := by
    rcases hown.2 with ⟨rfl, rfl⟩ | ⟨g, cap, cur, rfl, _⟩
    · exact ⟨_, _, rfl⟩
    · exact ⟨_, _, rfl⟩
  subst hl
  clear hb hown
  go_enter Tryz.func34, Tryz.ntmps34
  go_wp2_with (at_builtin; refine lists_append rfl (.tmp 8) (.tmp 10) rfl B (.slice al K cl) K vs rfl (H.out.2.alloc _) ⟨w.heap.size, 0, none⟩ 1 (.slice ao n c) rfl rfl ?_ (by rfl) hK (by simp; omega) ?_)
  · exact cell_new w (.slice ao n c) 33
  · intro v' w' hown' hgr
    obtain ⟨hb, hown⟩ := H.out
    have hb1 : (w.alloc (.cells #[Value.slice ao n c] 33)).heap[b]? = some (.cells (bagC (.slice al K cl)).toArray 90 (0, 0)) := by
      rw [← hb]; exact Below.heap_alloc _ _ _ hlt
    have hneb : (Value.slice al K cl).ownBlock = none ∨ (Value.slice al K cl).ownBlock ≠ some b := by
      rcases hown.2 with ⟨h1, _⟩ | ⟨g, cap, cur, h1, _, hg, _⟩
      · rw [h1]; exact Or.inl rfl
      · rw [h1]; right; simp only [Value.ownBlock, ne_eq, Option.some.injEq]; rintro rfl; rw [hb] at hg; simp at hg
    have hb2 : w'.heap[b]? = some (.cells (bagC (.slice al K cl)).toArray 90 (0, 0)) := by
      refine (hgr.block b (row_lt hb1) ?_).trans hb1
      rcases hneb with h | h
      · rw [h]; simp
      · exact fun e => h e.symm
    have d4 : w'.cell? ⟨b, 7, none⟩ = some (.slice al K cl) := by rw [cell_row hb2]; exact bagC_at _
    have f4 : w'.frozen? ⟨b, 7, none⟩ = false := free_row hb2 _
    obtain ⟨ax, cx, hxv⟩ : ∃ al cl, v' = .slice al (K + 1) cl := by
      rcases hown'.2 with ⟨rfl, h0⟩ | ⟨g, cap, cur, rfl, _⟩
      · omega
      · exact ⟨_, _, rfl⟩
    subst hxv
    have hlt2 : ∀ k, (Value.slice al K cl).ownBlock = some k → B ≤ k := fun k e => (hown.lt k e).1
    have H2 := hide (And.intro hb2 (And.intro hown' (And.intro hgr hlt2)))
    clear hb hown hb1 hneb hb2 hown' hgr hlt2
    go_wp2
    go_end0
    obtain ⟨hb2, hown', hgr, hlt2⟩ := H2.out
    refine ⟨rfl, _, (row_setCell hb2 7 _).trans (by rw [bagC_set]), ?_, ?_⟩
    · refine hown'.kept (grown_setCell _ b 7 _) ?_
      rcases hown'.2 with ⟨h1, _⟩ | ⟨g, cap, cur, h1, _, hg, _⟩
      · rw [h1]; exact Or.inl rfl
      · rw [h1]; right; simp only [Value.ownBlock, ne_eq, Option.some.injEq]; rintro rfl; rw [hb2] at hg; simp at hg
    · have g1 : w.grownBy (w.alloc (.cells #[Value.slice ao n c] 33)) none := World.grownBy_alloc w _ none
      have g3 := grown_setCell w' b 7 (.slice ax (K + 1) cx)
      refine ⟨?_, ?_, ?_, ?_, ?_⟩
      · exact g3.os.trans (hgr.os.trans g1.os)
      · exact g3.tape.trans (hgr.tape.trans g1.tape)
      · exact g3.output.trans (hgr.output.trans g1.output)
      · exact Nat.le_trans g1.size (Nat.le_trans hgr.size g3.size)
      · intro k hk
        have hkw : k < w.heap.size := by omega
        rw [g3.block k (Nat.lt_of_lt_of_le (Nat.lt_of_lt_of_le hkw g1.size) hgr.size) (by simp; omega), hgr.block k (Nat.lt_of_lt_of_le hkw g1.size) (fun e => by have := hlt2 k e.symm; omega), g1.block k hkw (by simp)]

theorem own_below {w w' : World} {B B1 n sz : Nat} {e : TypeId} {v : Value} {xs : List Value} (h : w.ownsRow B e sz v n xs) (hb : Below B1 w w') (hw : w.heap.size ≤ B1) : w'.ownsRow B e sz v n xs := by
  refine ⟨h.1, ?_⟩
  rcases h.2 with h1 | ⟨g, cap, cur, h1, h2, h3, h4⟩
  · exact Or.inl h1
  · exact Or.inr ⟨g, cap, cur, h1, h2, (hb.block g (Nat.lt_of_lt_of_le (row_lt h3) hw)).trans h3, h4⟩
theorem below_trans {B : Nat} {a b c : World} (h : Below B a b) (k : Below B b c) : Below B a c := ⟨k.os.trans h.os, k.tape.trans h.tape, k.output.trans h.output, Nat.le_trans h.size k.size, fun i hi => (k.block i hi).trans (h.block i hi)⟩

set_option maxRecDepth 100000 in
set_option maxHeartbeats 1000000 in
theorem apartL_any (B K L cap : Nat) (v : Nat → Value) (n : Nat → Nat) (f : Nat → List Value) (T : Nat → Prop) (w0 w : World) (hF : Fl w B K (.slice (some ⟨L, 0, none⟩) K cap) v n f) (hG : GrownT T w0 w) (hT : ∀ i, i < K → ∀ k, (v i).ownBlock = some k → w0.heap.size ≤ k ∨ T k) (hK : K ≤ 400000) (hK0 : 0 < K) (hn : ∀ k, k < K → n k ≤ 1000000) (hBw : B ≤ w.heap.size) :
    Calls Tryz.prog 14 #[.slice (some ⟨L, 0, none⟩) K cap] w fun e w' => e = .returned (.bool true) ∧ GrownT T w0 w' := by
  have HF := hide (And.intro hF hG)
  have HN := hide hn
  have HT := hide hT
  clear hT
  obtain ⟨b, hb⟩ : ∃ b, b = w.heap.size := ⟨_, rfl⟩
  have Hb := hide hb
  clear hF hG hn hb
  go_enter Tryz.func14, Tryz.ntmps14
  go_wp2
  rw [← Hb.out]
  go_loopg [4] K (fun q i wr => ∃ (j : Nat) (lsv : Value), q + j = K ∧ i = .int .i64 j ∧ wr.heap[b]? = some (.cells (bagC lsv).toArray 90 (0, 0)) ∧ wr.ownsRow b 33 1 lsv j ((List.range j).map v) ∧ Below b w wr ∧ b < wr.heap.size)
  case atStart =>
    have e : w.heap.size = b := Hb.out.symm
    refine ⟨0, .slice none 0 0, by omega, rfl, ?_, World.ownsRow_nil _ _ _ _, ?_, by simp; omega⟩
    · have := heap_alloc_new w (Obj.cells (bagC (.slice none 0 0)).toArray 90)
      rw [e] at this
      exact this
    · have := grown_below (World.grownBy_alloc w (Obj.cells (bagC (.slice none 0 0)).toArray 90) none)
      rw [e] at this
      exact this
  case round =>
    obtain ⟨j, lsv, hgj, rfl, hbag, hown, hbel, hbs⟩ := hrel
    by_cases hk : 0 < gk
    · have hj : j < K := by omega
      have hjK : (j : Int) < (K : Int) := by omega
      have hls := own_below HF.out.1.ls hbel (Nat.le_of_eq Hb.out.symm)
      have hcl : wr.cell? ⟨L, j, none⟩ = some (v j) := by rw [hls.cellAt j (by omega)]; simp [hj]
      obtain ⟨ao, c, hv⟩ := own_len (HF.out.1.row j hj)
      rw [hv] at hcl
      have hp := put_any b b lsv j ((List.range j).map v) ao (n j) c wr hbag hown (by omega) (by omega) (Nat.le_refl _)
      have HP := hide hp
      have HQ := hide (And.intro hbel hv)
      obtain ⟨nj, hnj⟩ : ∃ x, x = n j := ⟨_, rfl⟩
      rw [← hnj] at hcl
      have HNJ := hide hnj
      clear hbag hown hbel hls hv hp hnj
      go_wp2_with fail
      have hp := HP.out
      rw [← HNJ.out] at hp
      refine hp.mono ?_
      rintro e w' ⟨rfl, lsv', h1, h2, h3⟩
      have e2 : ((List.range j).map v) ++ [Value.slice ao nj c] = (List.range (j + 1)).map v := by rw [List.range_succ, List.map_append, HNJ.out, ← HQ.out.2]; rfl
      rw [e2] at h2
      have HR := hide (And.intro h1 (And.intro h2 (And.intro (below_trans HQ.out.1 h3) (Nat.lt_of_lt_of_le hbs h3.size))))
      clear hp h1 h2 h3 e2 HP HQ HNJ
      go_wp2
      go_roundg (gk - 1)
      case measure => omega
      case rel => exact ⟨j + 1, lsv', by omega, by go_num, HR.out.1, HR.out.2.1, HR.out.2.2.1, HR.out.2.2.2⟩
    · have hj : j = K := by omega
      have hjK : ¬ (j : Int) < (K : Int) := by omega
      rw [hj] at hown
      have hw : w.heap.size ≤ b := Nat.le_of_eq Hb.out.symm
      obtain ⟨L', cap', hl⟩ : ∃ g cap, lsv = .slice (some ⟨g, 0, none⟩) K cap := by
        rcases hown.2 with ⟨_, h0⟩ | ⟨g, cap, cur, rfl, _⟩
        · omega
        · exact ⟨_, _, rfl⟩
      subst hl
      obtain ⟨hF, hG⟩ := HF.out
      have hF2 : Fl wr B K (.slice (some ⟨L', 0, none⟩) K cap') v n f := ⟨ownsRow_le hown (by omega), fun k hk' => own_below (hF.row k hk') hbel hw, hF.apart⟩
      have hG2 : GrownT T w0 wr := hG.step (below_grown (by rw [Hb.out] at hbel; exact hbel)) (fun j e => by cases e)
      have hA := apart_any b B K L' cap' v n f T w0 wr hF2 ⟨hG2, hbag⟩ HT.out hK HN.out (by omega)
      have HA := hide hA
      clear hown hbag hbel hF hG hF2 hG2 hA HF hj
      go_wp2_with fail
      refine HA.out.mono ?_
      rintro e w' ⟨rfl, hg⟩
      have HG := hide hg
      clear hg
      go_wp2
      go_ret
      exact ⟨rfl, HG.out⟩
theorem own_keptT {T : Nat → Prop} {w w' : World} {B n sz : Nat} {e : TypeId} {v : Value} {xs : List Value} (h : w.ownsRow B e sz v n xs) (hg : GrownT T w w') (hne : ∀ k, v.ownBlock = some k → ¬ T k) : w'.ownsRow B e sz v n xs := by
  refine ⟨h.1, ?_⟩
  rcases h.2 with h1 | ⟨g, cap, cur, rfl, h2, h3, h4⟩
  · exact Or.inl h1
  · exact Or.inr ⟨g, cap, cur, rfl, h2, (hg.block g (row_lt h3) (hne g rfl)).trans h3, h4⟩
theorem grownT_after {T : Nat → Prop} {w0 w w' : World} (h : w0.grownBy w none) (hg : GrownT T w w') (hT : ∀ k, T k → w0.heap.size ≤ k) : w0.grownBy w' none :=
  ⟨hg.os.trans h.os, hg.tape.trans h.tape, hg.output.trans h.output, Nat.le_trans h.size hg.size, fun k hk _ => (hg.block k (Nat.lt_of_lt_of_le hk h.size) (fun t => by have := hT k t; omega)).trans (h.block k hk (by simp))⟩
theorem own_newer {w w1 : World} {B n m : Nat} {x y : Value} {xs ys : List Value} (hx : w.ownsRow B 64 2 x n xs) (hy : w1.ownsRow w.heap.size 64 2 y m ys) : x.ownBlock = none ∨ x.ownBlock ≠ y.ownBlock := by
  cases hb : x.ownBlock with
  | none => exact Or.inl rfl
  | some k =>
    right
    intro e
    have h1 := (hx.lt k hb).2
    have h2 := (hy.lt k e.symm).1
    omega
theorem apart_swap {x y : Value} (h : x.ownBlock = none ∨ x.ownBlock ≠ y.ownBlock) : y.ownBlock = none ∨ y.ownBlock ≠ x.ownBlock := by
  rcases h with h | h
  · cases hb : y.ownBlock with
    | none => exact Or.inl rfl
    | some k => right; rw [h]; simp
  · exact Or.inr (fun e => h e.symm)
/-- Rows, one behind the other, as the lists that ApartBytes is handed. -/
structure Rw (w : World) (B : Nat) (vs : List Value) : Prop where
  row : ∀ k, k < vs.length → ∃ n xs, w.ownsRow B 64 2 (vs.getD k undef) n xs ∧ n ≤ 1000000
  apart : ∀ i k, i < k → k < vs.length → (vs.getD i undef).ownBlock = none ∨ (vs.getD i undef).ownBlock ≠ (vs.getD k undef).ownBlock
theorem Rw.nil (w : World) (B : Nat) : Rw w B [] := ⟨fun k hk => by simp at hk, fun i k _ hk => by simp at hk⟩
theorem Rw.cons {w : World} {B n : Nat} {v : Value} {xs : List Value} {vs : List Value} (h : w.ownsRow B 64 2 v n xs) (hn : n ≤ 1000000) (ha : ∀ u ∈ vs, v.ownBlock = none ∨ v.ownBlock ≠ u.ownBlock) (hs : Rw w B vs) : Rw w B (v :: vs) := by
  refine ⟨fun k hk => ?_, fun i k hik hk => ?_⟩
  · cases k with
    | zero => exact ⟨n, xs, h, hn⟩
    | succ k => simpa using hs.row k (by simpa using hk)
  · cases k with
    | zero => omega
    | succ k =>
      have hk' : k < vs.length := by simpa using hk
      cases i with
      | zero =>
        have := ha (vs.getD k undef) (by simp [List.getD_eq_getElem?_getD, hk'])
        simpa using this
      | succ i => simpa using hs.apart i k (by omega) hk'
/-- ApartBytes of rows that lie apart. -/
theorem apartL_rows (B : Nat) (vs : List Value) (w : World) (hR : Rw w B vs) (hB : B ≤ w.heap.size) (hK : vs.length ≤ 400000) (hK0 : 0 < vs.length) :
    Calls Tryz.prog 14 #[.slice (some ⟨w.heap.size, 0, none⟩) vs.length vs.length] (w.alloc (.cells vs.toArray 33)) fun e w' => e = .returned (.bool true) ∧ GrownT (fun b => ∃ k, k < vs.length ∧ (vs.getD k undef).ownBlock = some b) w w' := by
  obtain ⟨n, hn⟩ : ∃ n : Nat → Nat, ∀ k, k < vs.length → ∃ xs, w.ownsRow B 64 2 (vs.getD k undef) (n k) xs ∧ n k ≤ 1000000 :=
    ⟨fun k => if h : k < vs.length then Classical.choose (hR.row k h) else 0, fun k hk => by simp only [hk, dif_pos]; exact Classical.choose_spec (hR.row k hk)⟩
  obtain ⟨f, hf⟩ : ∃ f : Nat → List Value, ∀ k, k < vs.length → w.ownsRow B 64 2 (vs.getD k undef) (n k) (f k) :=
    ⟨fun k => if h : k < vs.length then Classical.choose (hn k h) else [], fun k hk => by simp only [hk, dif_pos]; exact (Classical.choose_spec (hn k hk)).1⟩
  have hF : Fl (w.alloc (.cells vs.toArray 33)) B vs.length (.slice (some ⟨w.heap.size, 0, none⟩) vs.length vs.length) (fun k => vs.getD k undef) n f := by
    refine ⟨?_, fun k hk => (hf k hk).alloc _, fun i k hi hk hik => ?_⟩
    · have h := World.ownsRow_lit (base := B) (e := 33) (size := 1) w vs.toArray vs.length hB (by unfold maxLen; omega) (by simp)
      have e : (List.range vs.length).map (fun k => vs.getD k undef) = vs := by
        apply List.ext_getElem?
        intro k
        rw [List.getElem?_map]
        by_cases hk : k < vs.length
        · simp [hk, List.getD_eq_getElem?_getD]
        · simp [hk]
      rw [e]
      simpa using h
    · by_cases h : i < k
      · exact hR.apart i k h hk
      · exact apart_swap (hR.apart k i (by omega) hi)
  refine (apartL_any B vs.length w.heap.size vs.length _ n f (fun b => ∃ k, k < vs.length ∧ (vs.getD k undef).ownBlock = some b) w _ hF ((GrownT.refl _ w).step (World.grownBy_alloc w _ none) (fun j e => by cases e)) (fun i hi k e => Or.inr ⟨i, hi, e⟩) hK hK0 (fun k hk => by obtain ⟨_, _, h⟩ := hn k hk; exact h) (by simp; omega)).mono ?_
  rintro e w' ⟨rfl, h⟩
  exact ⟨rfl, h⟩
/-- The same, where the lists are new since w0. -/
theorem apartL_new (B K L cap : Nat) (v : Nat → Value) (n : Nat → Nat) (f : Nat → List Value) (w0 w : World) (hF : Fl w B K (.slice (some ⟨L, 0, none⟩) K cap) v n f) (hG : w0.grownBy w none) (hB : w0.heap.size ≤ B) (hK : K ≤ 400000) (hK0 : 0 < K) (hn : ∀ k, k < K → n k ≤ 1000000) (hBw : B ≤ w.heap.size) :
    Calls Tryz.prog 14 #[.slice (some ⟨L, 0, none⟩) K cap] w fun e w' => e = .returned (.bool true) ∧ w0.grownBy w' none := by
  refine (apartL_any B K L cap v n f (fun _ => False) w0 w hF ((GrownT.refl _ w0).step hG (fun j e => by cases e)) (fun i hi k e => Or.inl (Nat.le_trans hB ((hF.row i hi).lt k e).1)) hK hK0 hn hBw).mono ?_
  rintro e w' ⟨rfl, h⟩
  exact ⟨rfl, h.grown (fun k t => t.elim)⟩
end Go.Proofs.YtnnmaknjhfjojaaGreatDoor.Af
