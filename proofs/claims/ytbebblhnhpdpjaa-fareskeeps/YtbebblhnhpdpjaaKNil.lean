/- The contracts of the flat functions at no list. (By program: mknil.py.) -/
import Derived.Test.YtbebblhnhpdpjaaKFlat0
namespace Go.Proofs.Ytbebblhnhpdpjaa.Ap
open Go.RowKit
attribute [local go_sem ↓] Go.wp_at_zero Go.wp_at_succ

/-- The cells of a list of nothing. -/
noncomputable def noCells (E : TypeId) : Array Value := match Try.prog.info? E with | some i => (match i.zero with | some z => madeCells z.cells (0 * i.size) | none => #[]) | none => #[]
theorem make_none (T E : TypeId) (hu : Try.prog.underlying T = some (.slice E)) (hi : ((Try.prog.info? E).bind (·.zero)).isSome = true) (w : World) :
    (Instr.makeSlice T (.int .i64 0) (.int .i64 0)).run Try.prog w = .ok (.slice (some ⟨w.heap.size, 0, none⟩) 0 0) (w.alloc (.cells (noCells E) E)) := by
  cases hq : Try.prog.info? E with
  | none => rw [hq] at hi; cases hi
  | some i =>
    rw [hq] at hi
    simp only [Option.bind_some] at hi
    obtain ⟨z, hz⟩ := Option.isSome_iff_exists.1 hi
    have h := run_make (P := Try.prog) (w := w) T E i z hu hq hz .i64 .i64 0 0 (by omega) (by omega) (by omega) (by omega)
    have e : noCells E = madeCells z.cells ((0 : Int).toNat * i.size) := by unfold noCells; rw [hq]; simp only []; rw [hz]; rfl
    rw [e]
    exact h

set_option maxRecDepth 100000 in
set_option maxHeartbeats 1000000 in
theorem nil_60 (w : World) : Calls Try.prog 60 #[.slice none 0 0] w fun e w' => e = .returned (.bool true) ∧ w.grownBy w' none := by
  have hmk := fun w => make_none 73 113 Try.underlying73 (by kernel_rfl) w
  go_enter Try.func60, Try.ntmps60
  go_wp2
  go_loopg [3, 4] 0 (fun _ i _ wr => i = .int .i64 0 ∧ w.grownBy wr none)
  case atStart => exact ⟨rfl, by first | exact hg | exact grown_refl _ _ | exact grown_trans hg (World.grownBy_alloc _ _ none)⟩
  case round =>
    obtain ⟨rfl, hg⟩ := hrel
    go_wp2
    go_loopg [6, 7, 8] 0 (fun _ i _ _ wr => i = .int .i64 0 ∧ w.grownBy wr none)
    case atStart => exact ⟨rfl, by first | exact hg | exact grown_refl _ _ | exact grown_trans hg (World.grownBy_alloc _ _ none)⟩
    case round =>
      obtain ⟨rfl, hg⟩ := hrel
      go_wp2
      go_loopg [9, 10] 0 (fun _ i _ wr => i = .int .i64 0 ∧ w.grownBy wr none)
      case atStart => exact ⟨rfl, by first | exact hg | exact grown_refl _ _ | exact grown_trans hg (World.grownBy_alloc _ _ none)⟩
      case round =>
        obtain ⟨rfl, hg⟩ := hrel
        go_wp2
        go_loopg [11, 12, 13] 0 (fun _ i _ _ wr => i = .int .i64 0 ∧ w.grownBy wr none)
        case atStart => exact ⟨rfl, by first | exact hg | exact grown_refl _ _ | exact grown_trans hg (World.grownBy_alloc _ _ none)⟩
        case round =>
          obtain ⟨rfl, hg⟩ := hrel
          go_wp2
          go_loopg [14, 15] 0 (fun _ i _ wr => i = .int .i64 0 ∧ w.grownBy wr none)
          case atStart => exact ⟨rfl, by first | exact hg | exact grown_refl _ _ | exact grown_trans hg (World.grownBy_alloc _ _ none)⟩
          case round =>
            obtain ⟨rfl, hg⟩ := hrel
            go_wp2
            go_ret
            exact ⟨rfl, hg⟩

set_option maxRecDepth 100000 in
set_option maxHeartbeats 1000000 in
theorem nil_61 (w : World) : Calls Try.prog 61 #[.slice none 0 0] w fun e w' => e = .returned (.bool true) ∧ w.grownBy w' none := by
  have hmk := fun w => make_none 55 30 Try.underlying55 (by kernel_rfl) w
  go_enter Try.func61, Try.ntmps61
  go_wp2
  go_loopg [3, 4] 0 (fun _ i _ wr => i = .int .i64 0 ∧ w.grownBy wr none)
  case atStart => exact ⟨rfl, by first | exact hg | exact grown_refl _ _ | exact grown_trans hg (World.grownBy_alloc _ _ none)⟩
  case round =>
    obtain ⟨rfl, hg⟩ := hrel
    go_wp2
    go_loopg [6, 7, 8] 0 (fun _ i _ _ wr => i = .int .i64 0 ∧ w.grownBy wr none)
    case atStart => exact ⟨rfl, by first | exact hg | exact grown_refl _ _ | exact grown_trans hg (World.grownBy_alloc _ _ none)⟩
    case round =>
      obtain ⟨rfl, hg⟩ := hrel
      go_wp2
      go_loopg [9, 10] 0 (fun _ i _ wr => i = .int .i64 0 ∧ w.grownBy wr none)
      case atStart => exact ⟨rfl, by first | exact hg | exact grown_refl _ _ | exact grown_trans hg (World.grownBy_alloc _ _ none)⟩
      case round =>
        obtain ⟨rfl, hg⟩ := hrel
        go_wp2
        go_loopg [11, 12, 13] 0 (fun _ i _ _ wr => i = .int .i64 0 ∧ w.grownBy wr none)
        case atStart => exact ⟨rfl, by first | exact hg | exact grown_refl _ _ | exact grown_trans hg (World.grownBy_alloc _ _ none)⟩
        case round =>
          obtain ⟨rfl, hg⟩ := hrel
          go_wp2
          go_loopg [14, 15] 0 (fun _ i _ wr => i = .int .i64 0 ∧ w.grownBy wr none)
          case atStart => exact ⟨rfl, by first | exact hg | exact grown_refl _ _ | exact grown_trans hg (World.grownBy_alloc _ _ none)⟩
          case round =>
            obtain ⟨rfl, hg⟩ := hrel
            go_wp2
            go_ret
            exact ⟨rfl, hg⟩

set_option maxRecDepth 100000 in
set_option maxHeartbeats 1000000 in
theorem nil_62 (w : World) : Calls Try.prog 62 #[.slice none 0 0] w fun e w' => e = .returned (.bool true) ∧ w.grownBy w' none := by
  have hmk := fun w => make_none 74 114 Try.underlying74 (by kernel_rfl) w
  go_enter Try.func62, Try.ntmps62
  go_wp2
  go_loopg [3, 4] 0 (fun _ i _ wr => i = .int .i64 0 ∧ w.grownBy wr none)
  case atStart => exact ⟨rfl, by first | exact hg | exact grown_refl _ _ | exact grown_trans hg (World.grownBy_alloc _ _ none)⟩
  case round =>
    obtain ⟨rfl, hg⟩ := hrel
    go_wp2
    go_loopg [6, 7, 8] 0 (fun _ i _ _ wr => i = .int .i64 0 ∧ w.grownBy wr none)
    case atStart => exact ⟨rfl, by first | exact hg | exact grown_refl _ _ | exact grown_trans hg (World.grownBy_alloc _ _ none)⟩
    case round =>
      obtain ⟨rfl, hg⟩ := hrel
      go_wp2
      go_loopg [9, 10] 0 (fun _ i _ wr => i = .int .i64 0 ∧ w.grownBy wr none)
      case atStart => exact ⟨rfl, by first | exact hg | exact grown_refl _ _ | exact grown_trans hg (World.grownBy_alloc _ _ none)⟩
      case round =>
        obtain ⟨rfl, hg⟩ := hrel
        go_wp2
        go_loopg [11, 12, 13] 0 (fun _ i _ _ wr => i = .int .i64 0 ∧ w.grownBy wr none)
        case atStart => exact ⟨rfl, by first | exact hg | exact grown_refl _ _ | exact grown_trans hg (World.grownBy_alloc _ _ none)⟩
        case round =>
          obtain ⟨rfl, hg⟩ := hrel
          go_wp2
          go_loopg [14, 15] 0 (fun _ i _ wr => i = .int .i64 0 ∧ w.grownBy wr none)
          case atStart => exact ⟨rfl, by first | exact hg | exact grown_refl _ _ | exact grown_trans hg (World.grownBy_alloc _ _ none)⟩
          case round =>
            obtain ⟨rfl, hg⟩ := hrel
            go_wp2
            go_ret
            exact ⟨rfl, hg⟩

set_option maxRecDepth 100000 in
set_option maxHeartbeats 1000000 in
theorem nil_63 (w : World) : Calls Try.prog 63 #[.slice none 0 0] w fun e w' => e = .returned (.bool true) ∧ w.grownBy w' none := by
  have hmk := fun w => make_none 75 115 Try.underlying75 (by kernel_rfl) w
  go_enter Try.func63, Try.ntmps63
  go_wp2
  go_loopg [3, 4] 0 (fun _ i _ wr => i = .int .i64 0 ∧ w.grownBy wr none)
  case atStart => exact ⟨rfl, by first | exact hg | exact grown_refl _ _ | exact grown_trans hg (World.grownBy_alloc _ _ none)⟩
  case round =>
    obtain ⟨rfl, hg⟩ := hrel
    go_wp2
    go_loopg [6, 7, 8] 0 (fun _ i _ _ wr => i = .int .i64 0 ∧ w.grownBy wr none)
    case atStart => exact ⟨rfl, by first | exact hg | exact grown_refl _ _ | exact grown_trans hg (World.grownBy_alloc _ _ none)⟩
    case round =>
      obtain ⟨rfl, hg⟩ := hrel
      go_wp2
      go_loopg [9, 10] 0 (fun _ i _ wr => i = .int .i64 0 ∧ w.grownBy wr none)
      case atStart => exact ⟨rfl, by first | exact hg | exact grown_refl _ _ | exact grown_trans hg (World.grownBy_alloc _ _ none)⟩
      case round =>
        obtain ⟨rfl, hg⟩ := hrel
        go_wp2
        go_loopg [11, 12, 13] 0 (fun _ i _ _ wr => i = .int .i64 0 ∧ w.grownBy wr none)
        case atStart => exact ⟨rfl, by first | exact hg | exact grown_refl _ _ | exact grown_trans hg (World.grownBy_alloc _ _ none)⟩
        case round =>
          obtain ⟨rfl, hg⟩ := hrel
          go_wp2
          go_loopg [14, 15] 0 (fun _ i _ wr => i = .int .i64 0 ∧ w.grownBy wr none)
          case atStart => exact ⟨rfl, by first | exact hg | exact grown_refl _ _ | exact grown_trans hg (World.grownBy_alloc _ _ none)⟩
          case round =>
            obtain ⟨rfl, hg⟩ := hrel
            go_wp2
            go_ret
            exact ⟨rfl, hg⟩

set_option maxRecDepth 100000 in
set_option maxHeartbeats 1000000 in
theorem nil_64 (w : World) : Calls Try.prog 64 #[.slice none 0 0] w fun e w' => e = .returned (.bool true) ∧ w.grownBy w' none := by
  have hmk := fun w => make_none 76 117 Try.underlying76 (by kernel_rfl) w
  go_enter Try.func64, Try.ntmps64
  go_wp2
  go_loopg [3, 4] 0 (fun _ i _ wr => i = .int .i64 0 ∧ w.grownBy wr none)
  case atStart => exact ⟨rfl, by first | exact hg | exact grown_refl _ _ | exact grown_trans hg (World.grownBy_alloc _ _ none)⟩
  case round =>
    obtain ⟨rfl, hg⟩ := hrel
    go_wp2
    go_loopg [6, 7, 8] 0 (fun _ i _ _ wr => i = .int .i64 0 ∧ w.grownBy wr none)
    case atStart => exact ⟨rfl, by first | exact hg | exact grown_refl _ _ | exact grown_trans hg (World.grownBy_alloc _ _ none)⟩
    case round =>
      obtain ⟨rfl, hg⟩ := hrel
      go_wp2
      go_loopg [9, 10] 0 (fun _ i _ wr => i = .int .i64 0 ∧ w.grownBy wr none)
      case atStart => exact ⟨rfl, by first | exact hg | exact grown_refl _ _ | exact grown_trans hg (World.grownBy_alloc _ _ none)⟩
      case round =>
        obtain ⟨rfl, hg⟩ := hrel
        go_wp2
        go_loopg [11, 12, 13] 0 (fun _ i _ _ wr => i = .int .i64 0 ∧ w.grownBy wr none)
        case atStart => exact ⟨rfl, by first | exact hg | exact grown_refl _ _ | exact grown_trans hg (World.grownBy_alloc _ _ none)⟩
        case round =>
          obtain ⟨rfl, hg⟩ := hrel
          go_wp2
          go_loopg [14, 15] 0 (fun _ i _ wr => i = .int .i64 0 ∧ w.grownBy wr none)
          case atStart => exact ⟨rfl, by first | exact hg | exact grown_refl _ _ | exact grown_trans hg (World.grownBy_alloc _ _ none)⟩
          case round =>
            obtain ⟨rfl, hg⟩ := hrel
            go_wp2
            go_ret
            exact ⟨rfl, hg⟩

set_option maxRecDepth 100000 in
set_option maxHeartbeats 1000000 in
theorem nil_65 (w : World) : Calls Try.prog 65 #[.slice none 0 0] w fun e w' => e = .returned (.bool true) ∧ w.grownBy w' none := by
  have hmk := fun w => make_none 53 27 Try.underlying53 (by kernel_rfl) w
  go_enter Try.func65, Try.ntmps65
  go_wp2
  go_loopg [3, 4] 0 (fun _ i _ wr => i = .int .i64 0 ∧ w.grownBy wr none)
  case atStart => exact ⟨rfl, by first | exact hg | exact grown_refl _ _ | exact grown_trans hg (World.grownBy_alloc _ _ none)⟩
  case round =>
    obtain ⟨rfl, hg⟩ := hrel
    go_wp2
    go_loopg [6, 7, 8] 0 (fun _ i _ _ wr => i = .int .i64 0 ∧ w.grownBy wr none)
    case atStart => exact ⟨rfl, by first | exact hg | exact grown_refl _ _ | exact grown_trans hg (World.grownBy_alloc _ _ none)⟩
    case round =>
      obtain ⟨rfl, hg⟩ := hrel
      go_wp2
      go_loopg [9, 10] 0 (fun _ i _ wr => i = .int .i64 0 ∧ w.grownBy wr none)
      case atStart => exact ⟨rfl, by first | exact hg | exact grown_refl _ _ | exact grown_trans hg (World.grownBy_alloc _ _ none)⟩
      case round =>
        obtain ⟨rfl, hg⟩ := hrel
        go_wp2
        go_loopg [11, 12, 13] 0 (fun _ i _ _ wr => i = .int .i64 0 ∧ w.grownBy wr none)
        case atStart => exact ⟨rfl, by first | exact hg | exact grown_refl _ _ | exact grown_trans hg (World.grownBy_alloc _ _ none)⟩
        case round =>
          obtain ⟨rfl, hg⟩ := hrel
          go_wp2
          go_loopg [14, 15] 0 (fun _ i _ wr => i = .int .i64 0 ∧ w.grownBy wr none)
          case atStart => exact ⟨rfl, by first | exact hg | exact grown_refl _ _ | exact grown_trans hg (World.grownBy_alloc _ _ none)⟩
          case round =>
            obtain ⟨rfl, hg⟩ := hrel
            go_wp2
            go_ret
            exact ⟨rfl, hg⟩

set_option maxRecDepth 100000 in
set_option maxHeartbeats 1000000 in
theorem nil_66 (w : World) : Calls Try.prog 66 #[.slice none 0 0] w fun e w' => e = .returned (.bool true) ∧ w.grownBy w' none := by
  have hmk := fun w => make_none 77 119 Try.underlying77 (by kernel_rfl) w
  go_enter Try.func66, Try.ntmps66
  go_wp2
  go_loopg [3, 4] 0 (fun _ i _ wr => i = .int .i64 0 ∧ w.grownBy wr none)
  case atStart => exact ⟨rfl, by first | exact hg | exact grown_refl _ _ | exact grown_trans hg (World.grownBy_alloc _ _ none)⟩
  case round =>
    obtain ⟨rfl, hg⟩ := hrel
    go_wp2
    go_loopg [6, 7, 8] 0 (fun _ i _ _ wr => i = .int .i64 0 ∧ w.grownBy wr none)
    case atStart => exact ⟨rfl, by first | exact hg | exact grown_refl _ _ | exact grown_trans hg (World.grownBy_alloc _ _ none)⟩
    case round =>
      obtain ⟨rfl, hg⟩ := hrel
      go_wp2
      go_loopg [9, 10] 0 (fun _ i _ wr => i = .int .i64 0 ∧ w.grownBy wr none)
      case atStart => exact ⟨rfl, by first | exact hg | exact grown_refl _ _ | exact grown_trans hg (World.grownBy_alloc _ _ none)⟩
      case round =>
        obtain ⟨rfl, hg⟩ := hrel
        go_wp2
        go_loopg [11, 12, 13] 0 (fun _ i _ _ wr => i = .int .i64 0 ∧ w.grownBy wr none)
        case atStart => exact ⟨rfl, by first | exact hg | exact grown_refl _ _ | exact grown_trans hg (World.grownBy_alloc _ _ none)⟩
        case round =>
          obtain ⟨rfl, hg⟩ := hrel
          go_wp2
          go_loopg [14, 15] 0 (fun _ i _ wr => i = .int .i64 0 ∧ w.grownBy wr none)
          case atStart => exact ⟨rfl, by first | exact hg | exact grown_refl _ _ | exact grown_trans hg (World.grownBy_alloc _ _ none)⟩
          case round =>
            obtain ⟨rfl, hg⟩ := hrel
            go_wp2
            go_ret
            exact ⟨rfl, hg⟩

set_option maxRecDepth 100000 in
set_option maxHeartbeats 1000000 in
theorem nil_67 (w : World) : Calls Try.prog 67 #[.slice none 0 0] w fun e w' => e = .returned (.bool true) ∧ w.grownBy w' none := by
  have hmk := fun w => make_none 78 124 Try.underlying78 (by kernel_rfl) w
  go_enter Try.func67, Try.ntmps67
  go_wp2
  go_loopg [3, 4] 0 (fun _ i _ wr => i = .int .i64 0 ∧ w.grownBy wr none)
  case atStart => exact ⟨rfl, by first | exact hg | exact grown_refl _ _ | exact grown_trans hg (World.grownBy_alloc _ _ none)⟩
  case round =>
    obtain ⟨rfl, hg⟩ := hrel
    go_wp2
    go_loopg [6, 7, 8] 0 (fun _ i _ _ wr => i = .int .i64 0 ∧ w.grownBy wr none)
    case atStart => exact ⟨rfl, by first | exact hg | exact grown_refl _ _ | exact grown_trans hg (World.grownBy_alloc _ _ none)⟩
    case round =>
      obtain ⟨rfl, hg⟩ := hrel
      go_wp2
      go_loopg [9, 10] 0 (fun _ i _ wr => i = .int .i64 0 ∧ w.grownBy wr none)
      case atStart => exact ⟨rfl, by first | exact hg | exact grown_refl _ _ | exact grown_trans hg (World.grownBy_alloc _ _ none)⟩
      case round =>
        obtain ⟨rfl, hg⟩ := hrel
        go_wp2
        go_loopg [11, 12, 13] 0 (fun _ i _ _ wr => i = .int .i64 0 ∧ w.grownBy wr none)
        case atStart => exact ⟨rfl, by first | exact hg | exact grown_refl _ _ | exact grown_trans hg (World.grownBy_alloc _ _ none)⟩
        case round =>
          obtain ⟨rfl, hg⟩ := hrel
          go_wp2
          go_loopg [14, 15] 0 (fun _ i _ wr => i = .int .i64 0 ∧ w.grownBy wr none)
          case atStart => exact ⟨rfl, by first | exact hg | exact grown_refl _ _ | exact grown_trans hg (World.grownBy_alloc _ _ none)⟩
          case round =>
            obtain ⟨rfl, hg⟩ := hrel
            go_wp2
            go_ret
            exact ⟨rfl, hg⟩

set_option maxRecDepth 100000 in
set_option maxHeartbeats 1000000 in
theorem nil_68 (w : World) : Calls Try.prog 68 #[.slice none 0 0] w fun e w' => e = .returned (.bool true) ∧ w.grownBy w' none := by
  have hmk := fun w => make_none 79 128 Try.underlying79 (by kernel_rfl) w
  go_enter Try.func68, Try.ntmps68
  go_wp2
  go_loopg [3, 4] 0 (fun _ i _ wr => i = .int .i64 0 ∧ w.grownBy wr none)
  case atStart => exact ⟨rfl, by first | exact hg | exact grown_refl _ _ | exact grown_trans hg (World.grownBy_alloc _ _ none)⟩
  case round =>
    obtain ⟨rfl, hg⟩ := hrel
    go_wp2
    go_loopg [6, 7, 8] 0 (fun _ i _ _ wr => i = .int .i64 0 ∧ w.grownBy wr none)
    case atStart => exact ⟨rfl, by first | exact hg | exact grown_refl _ _ | exact grown_trans hg (World.grownBy_alloc _ _ none)⟩
    case round =>
      obtain ⟨rfl, hg⟩ := hrel
      go_wp2
      go_loopg [9, 10] 0 (fun _ i _ wr => i = .int .i64 0 ∧ w.grownBy wr none)
      case atStart => exact ⟨rfl, by first | exact hg | exact grown_refl _ _ | exact grown_trans hg (World.grownBy_alloc _ _ none)⟩
      case round =>
        obtain ⟨rfl, hg⟩ := hrel
        go_wp2
        go_loopg [11, 12, 13] 0 (fun _ i _ _ wr => i = .int .i64 0 ∧ w.grownBy wr none)
        case atStart => exact ⟨rfl, by first | exact hg | exact grown_refl _ _ | exact grown_trans hg (World.grownBy_alloc _ _ none)⟩
        case round =>
          obtain ⟨rfl, hg⟩ := hrel
          go_wp2
          go_loopg [14, 15] 0 (fun _ i _ wr => i = .int .i64 0 ∧ w.grownBy wr none)
          case atStart => exact ⟨rfl, by first | exact hg | exact grown_refl _ _ | exact grown_trans hg (World.grownBy_alloc _ _ none)⟩
          case round =>
            obtain ⟨rfl, hg⟩ := hrel
            go_wp2
            go_ret
            exact ⟨rfl, hg⟩

set_option maxRecDepth 100000 in
set_option maxHeartbeats 1000000 in
theorem nil_69 (w : World) : Calls Try.prog 69 #[.slice none 0 0] w fun e w' => e = .returned (.bool true) ∧ w.grownBy w' none := by
  have hmk := fun w => make_none 80 133 Try.underlying80 (by kernel_rfl) w
  go_enter Try.func69, Try.ntmps69
  go_wp2
  go_loopg [3, 4] 0 (fun _ i _ wr => i = .int .i64 0 ∧ w.grownBy wr none)
  case atStart => exact ⟨rfl, by first | exact hg | exact grown_refl _ _ | exact grown_trans hg (World.grownBy_alloc _ _ none)⟩
  case round =>
    obtain ⟨rfl, hg⟩ := hrel
    go_wp2
    go_loopg [6, 7, 8] 0 (fun _ i _ _ wr => i = .int .i64 0 ∧ w.grownBy wr none)
    case atStart => exact ⟨rfl, by first | exact hg | exact grown_refl _ _ | exact grown_trans hg (World.grownBy_alloc _ _ none)⟩
    case round =>
      obtain ⟨rfl, hg⟩ := hrel
      go_wp2
      go_loopg [9, 10] 0 (fun _ i _ wr => i = .int .i64 0 ∧ w.grownBy wr none)
      case atStart => exact ⟨rfl, by first | exact hg | exact grown_refl _ _ | exact grown_trans hg (World.grownBy_alloc _ _ none)⟩
      case round =>
        obtain ⟨rfl, hg⟩ := hrel
        go_wp2
        go_loopg [11, 12, 13] 0 (fun _ i _ _ wr => i = .int .i64 0 ∧ w.grownBy wr none)
        case atStart => exact ⟨rfl, by first | exact hg | exact grown_refl _ _ | exact grown_trans hg (World.grownBy_alloc _ _ none)⟩
        case round =>
          obtain ⟨rfl, hg⟩ := hrel
          go_wp2
          go_loopg [14, 15] 0 (fun _ i _ wr => i = .int .i64 0 ∧ w.grownBy wr none)
          case atStart => exact ⟨rfl, by first | exact hg | exact grown_refl _ _ | exact grown_trans hg (World.grownBy_alloc _ _ none)⟩
          case round =>
            obtain ⟨rfl, hg⟩ := hrel
            go_wp2
            go_ret
            exact ⟨rfl, hg⟩

set_option maxRecDepth 100000 in
set_option maxHeartbeats 1000000 in
theorem nil_70 (w : World) : Calls Try.prog 70 #[.slice none 0 0] w fun e w' => e = .returned (.bool true) ∧ w.grownBy w' none := by
  have hmk := fun w => make_none 81 138 Try.underlying81 (by kernel_rfl) w
  go_enter Try.func70, Try.ntmps70
  go_wp2
  go_loopg [3, 4] 0 (fun _ i _ wr => i = .int .i64 0 ∧ w.grownBy wr none)
  case atStart => exact ⟨rfl, by first | exact hg | exact grown_refl _ _ | exact grown_trans hg (World.grownBy_alloc _ _ none)⟩
  case round =>
    obtain ⟨rfl, hg⟩ := hrel
    go_wp2
    go_loopg [6, 7, 8] 0 (fun _ i _ _ wr => i = .int .i64 0 ∧ w.grownBy wr none)
    case atStart => exact ⟨rfl, by first | exact hg | exact grown_refl _ _ | exact grown_trans hg (World.grownBy_alloc _ _ none)⟩
    case round =>
      obtain ⟨rfl, hg⟩ := hrel
      go_wp2
      go_loopg [9, 10] 0 (fun _ i _ wr => i = .int .i64 0 ∧ w.grownBy wr none)
      case atStart => exact ⟨rfl, by first | exact hg | exact grown_refl _ _ | exact grown_trans hg (World.grownBy_alloc _ _ none)⟩
      case round =>
        obtain ⟨rfl, hg⟩ := hrel
        go_wp2
        go_loopg [11, 12, 13] 0 (fun _ i _ _ wr => i = .int .i64 0 ∧ w.grownBy wr none)
        case atStart => exact ⟨rfl, by first | exact hg | exact grown_refl _ _ | exact grown_trans hg (World.grownBy_alloc _ _ none)⟩
        case round =>
          obtain ⟨rfl, hg⟩ := hrel
          go_wp2
          go_loopg [14, 15] 0 (fun _ i _ wr => i = .int .i64 0 ∧ w.grownBy wr none)
          case atStart => exact ⟨rfl, by first | exact hg | exact grown_refl _ _ | exact grown_trans hg (World.grownBy_alloc _ _ none)⟩
          case round =>
            obtain ⟨rfl, hg⟩ := hrel
            go_wp2
            go_ret
            exact ⟨rfl, hg⟩

set_option maxRecDepth 100000 in
set_option maxHeartbeats 1000000 in
theorem nil_71 (w : World) : Calls Try.prog 71 #[.slice none 0 0] w fun e w' => e = .returned (.bool true) ∧ w.grownBy w' none := by
  have hmk := fun w => make_none 82 144 Try.underlying82 (by kernel_rfl) w
  go_enter Try.func71, Try.ntmps71
  go_wp2
  go_loopg [3, 4] 0 (fun _ i _ wr => i = .int .i64 0 ∧ w.grownBy wr none)
  case atStart => exact ⟨rfl, by first | exact hg | exact grown_refl _ _ | exact grown_trans hg (World.grownBy_alloc _ _ none)⟩
  case round =>
    obtain ⟨rfl, hg⟩ := hrel
    go_wp2
    go_loopg [6, 7, 8] 0 (fun _ i _ _ wr => i = .int .i64 0 ∧ w.grownBy wr none)
    case atStart => exact ⟨rfl, by first | exact hg | exact grown_refl _ _ | exact grown_trans hg (World.grownBy_alloc _ _ none)⟩
    case round =>
      obtain ⟨rfl, hg⟩ := hrel
      go_wp2
      go_loopg [9, 10] 0 (fun _ i _ wr => i = .int .i64 0 ∧ w.grownBy wr none)
      case atStart => exact ⟨rfl, by first | exact hg | exact grown_refl _ _ | exact grown_trans hg (World.grownBy_alloc _ _ none)⟩
      case round =>
        obtain ⟨rfl, hg⟩ := hrel
        go_wp2
        go_loopg [11, 12, 13] 0 (fun _ i _ _ wr => i = .int .i64 0 ∧ w.grownBy wr none)
        case atStart => exact ⟨rfl, by first | exact hg | exact grown_refl _ _ | exact grown_trans hg (World.grownBy_alloc _ _ none)⟩
        case round =>
          obtain ⟨rfl, hg⟩ := hrel
          go_wp2
          go_loopg [14, 15] 0 (fun _ i _ wr => i = .int .i64 0 ∧ w.grownBy wr none)
          case atStart => exact ⟨rfl, by first | exact hg | exact grown_refl _ _ | exact grown_trans hg (World.grownBy_alloc _ _ none)⟩
          case round =>
            obtain ⟨rfl, hg⟩ := hrel
            go_wp2
            go_ret
            exact ⟨rfl, hg⟩

set_option maxRecDepth 100000 in
set_option maxHeartbeats 1000000 in
theorem nil_72 (w : World) : Calls Try.prog 72 #[.slice none 0 0] w fun e w' => e = .returned (.bool true) ∧ w.grownBy w' none := by
  have hmk := fun w => make_none 83 148 Try.underlying83 (by kernel_rfl) w
  go_enter Try.func72, Try.ntmps72
  go_wp2
  go_loopg [3, 4] 0 (fun _ i _ wr => i = .int .i64 0 ∧ w.grownBy wr none)
  case atStart => exact ⟨rfl, by first | exact hg | exact grown_refl _ _ | exact grown_trans hg (World.grownBy_alloc _ _ none)⟩
  case round =>
    obtain ⟨rfl, hg⟩ := hrel
    go_wp2
    go_loopg [6, 7, 8] 0 (fun _ i _ _ wr => i = .int .i64 0 ∧ w.grownBy wr none)
    case atStart => exact ⟨rfl, by first | exact hg | exact grown_refl _ _ | exact grown_trans hg (World.grownBy_alloc _ _ none)⟩
    case round =>
      obtain ⟨rfl, hg⟩ := hrel
      go_wp2
      go_loopg [9, 10] 0 (fun _ i _ wr => i = .int .i64 0 ∧ w.grownBy wr none)
      case atStart => exact ⟨rfl, by first | exact hg | exact grown_refl _ _ | exact grown_trans hg (World.grownBy_alloc _ _ none)⟩
      case round =>
        obtain ⟨rfl, hg⟩ := hrel
        go_wp2
        go_loopg [11, 12, 13] 0 (fun _ i _ _ wr => i = .int .i64 0 ∧ w.grownBy wr none)
        case atStart => exact ⟨rfl, by first | exact hg | exact grown_refl _ _ | exact grown_trans hg (World.grownBy_alloc _ _ none)⟩
        case round =>
          obtain ⟨rfl, hg⟩ := hrel
          go_wp2
          go_loopg [14, 15] 0 (fun _ i _ wr => i = .int .i64 0 ∧ w.grownBy wr none)
          case atStart => exact ⟨rfl, by first | exact hg | exact grown_refl _ _ | exact grown_trans hg (World.grownBy_alloc _ _ none)⟩
          case round =>
            obtain ⟨rfl, hg⟩ := hrel
            go_wp2
            go_ret
            exact ⟨rfl, hg⟩

set_option maxRecDepth 100000 in
set_option maxHeartbeats 1000000 in
theorem nil_73 (w : World) : Calls Try.prog 73 #[.slice none 0 0] w fun e w' => e = .returned (.bool true) ∧ w.grownBy w' none := by
  have hmk := fun w => make_none 84 153 Try.underlying84 (by kernel_rfl) w
  go_enter Try.func73, Try.ntmps73
  go_wp2
  go_loopg [3, 4] 0 (fun _ i _ wr => i = .int .i64 0 ∧ w.grownBy wr none)
  case atStart => exact ⟨rfl, by first | exact hg | exact grown_refl _ _ | exact grown_trans hg (World.grownBy_alloc _ _ none)⟩
  case round =>
    obtain ⟨rfl, hg⟩ := hrel
    go_wp2
    go_loopg [6, 7, 8] 0 (fun _ i _ _ wr => i = .int .i64 0 ∧ w.grownBy wr none)
    case atStart => exact ⟨rfl, by first | exact hg | exact grown_refl _ _ | exact grown_trans hg (World.grownBy_alloc _ _ none)⟩
    case round =>
      obtain ⟨rfl, hg⟩ := hrel
      go_wp2
      go_loopg [9, 10] 0 (fun _ i _ wr => i = .int .i64 0 ∧ w.grownBy wr none)
      case atStart => exact ⟨rfl, by first | exact hg | exact grown_refl _ _ | exact grown_trans hg (World.grownBy_alloc _ _ none)⟩
      case round =>
        obtain ⟨rfl, hg⟩ := hrel
        go_wp2
        go_loopg [11, 12, 13] 0 (fun _ i _ _ wr => i = .int .i64 0 ∧ w.grownBy wr none)
        case atStart => exact ⟨rfl, by first | exact hg | exact grown_refl _ _ | exact grown_trans hg (World.grownBy_alloc _ _ none)⟩
        case round =>
          obtain ⟨rfl, hg⟩ := hrel
          go_wp2
          go_loopg [14, 15] 0 (fun _ i _ wr => i = .int .i64 0 ∧ w.grownBy wr none)
          case atStart => exact ⟨rfl, by first | exact hg | exact grown_refl _ _ | exact grown_trans hg (World.grownBy_alloc _ _ none)⟩
          case round =>
            obtain ⟨rfl, hg⟩ := hrel
            go_wp2
            go_ret
            exact ⟨rfl, hg⟩

set_option maxRecDepth 100000 in
set_option maxHeartbeats 1000000 in
theorem nil_74 (w : World) : Calls Try.prog 74 #[.slice none 0 0] w fun e w' => e = .returned (.bool true) ∧ w.grownBy w' none := by
  have hmk := fun w => make_none 85 22 Try.underlying85 (by kernel_rfl) w
  go_enter Try.func74, Try.ntmps74
  go_wp2
  go_loopg [3, 4] 0 (fun _ i _ wr => i = .int .i64 0 ∧ w.grownBy wr none)
  case atStart => exact ⟨rfl, by first | exact hg | exact grown_refl _ _ | exact grown_trans hg (World.grownBy_alloc _ _ none)⟩
  case round =>
    obtain ⟨rfl, hg⟩ := hrel
    go_wp2
    go_loopg [6, 7, 8] 0 (fun _ i _ _ wr => i = .int .i64 0 ∧ w.grownBy wr none)
    case atStart => exact ⟨rfl, by first | exact hg | exact grown_refl _ _ | exact grown_trans hg (World.grownBy_alloc _ _ none)⟩
    case round =>
      obtain ⟨rfl, hg⟩ := hrel
      go_wp2
      go_loopg [9, 10] 0 (fun _ i _ wr => i = .int .i64 0 ∧ w.grownBy wr none)
      case atStart => exact ⟨rfl, by first | exact hg | exact grown_refl _ _ | exact grown_trans hg (World.grownBy_alloc _ _ none)⟩
      case round =>
        obtain ⟨rfl, hg⟩ := hrel
        go_wp2
        go_loopg [11, 12, 13] 0 (fun _ i _ _ wr => i = .int .i64 0 ∧ w.grownBy wr none)
        case atStart => exact ⟨rfl, by first | exact hg | exact grown_refl _ _ | exact grown_trans hg (World.grownBy_alloc _ _ none)⟩
        case round =>
          obtain ⟨rfl, hg⟩ := hrel
          go_wp2
          go_loopg [14, 15] 0 (fun _ i _ wr => i = .int .i64 0 ∧ w.grownBy wr none)
          case atStart => exact ⟨rfl, by first | exact hg | exact grown_refl _ _ | exact grown_trans hg (World.grownBy_alloc _ _ none)⟩
          case round =>
            obtain ⟨rfl, hg⟩ := hrel
            go_wp2
            go_ret
            exact ⟨rfl, hg⟩

set_option maxRecDepth 100000 in
set_option maxHeartbeats 1000000 in
theorem nil_75 (w : World) : Calls Try.prog 75 #[.slice none 0 0] w fun e w' => e = .returned (.bool true) ∧ w.grownBy w' none := by
  have hmk := fun w => make_none 86 157 Try.underlying86 (by kernel_rfl) w
  go_enter Try.func75, Try.ntmps75
  go_wp2
  go_loopg [3, 4] 0 (fun _ i _ wr => i = .int .i64 0 ∧ w.grownBy wr none)
  case atStart => exact ⟨rfl, by first | exact hg | exact grown_refl _ _ | exact grown_trans hg (World.grownBy_alloc _ _ none)⟩
  case round =>
    obtain ⟨rfl, hg⟩ := hrel
    go_wp2
    go_loopg [6, 7, 8] 0 (fun _ i _ _ wr => i = .int .i64 0 ∧ w.grownBy wr none)
    case atStart => exact ⟨rfl, by first | exact hg | exact grown_refl _ _ | exact grown_trans hg (World.grownBy_alloc _ _ none)⟩
    case round =>
      obtain ⟨rfl, hg⟩ := hrel
      go_wp2
      go_loopg [9, 10] 0 (fun _ i _ wr => i = .int .i64 0 ∧ w.grownBy wr none)
      case atStart => exact ⟨rfl, by first | exact hg | exact grown_refl _ _ | exact grown_trans hg (World.grownBy_alloc _ _ none)⟩
      case round =>
        obtain ⟨rfl, hg⟩ := hrel
        go_wp2
        go_loopg [11, 12, 13] 0 (fun _ i _ _ wr => i = .int .i64 0 ∧ w.grownBy wr none)
        case atStart => exact ⟨rfl, by first | exact hg | exact grown_refl _ _ | exact grown_trans hg (World.grownBy_alloc _ _ none)⟩
        case round =>
          obtain ⟨rfl, hg⟩ := hrel
          go_wp2
          go_loopg [14, 15] 0 (fun _ i _ wr => i = .int .i64 0 ∧ w.grownBy wr none)
          case atStart => exact ⟨rfl, by first | exact hg | exact grown_refl _ _ | exact grown_trans hg (World.grownBy_alloc _ _ none)⟩
          case round =>
            obtain ⟨rfl, hg⟩ := hrel
            go_wp2
            go_ret
            exact ⟨rfl, hg⟩

set_option maxRecDepth 100000 in
set_option maxHeartbeats 1000000 in
theorem nil_76 (w : World) : Calls Try.prog 76 #[.slice none 0 0] w fun e w' => e = .returned (.bool true) ∧ w.grownBy w' none := by
  have hmk := fun w => make_none 87 161 Try.underlying87 (by kernel_rfl) w
  go_enter Try.func76, Try.ntmps76
  go_wp2
  go_loopg [3, 4] 0 (fun _ i _ wr => i = .int .i64 0 ∧ w.grownBy wr none)
  case atStart => exact ⟨rfl, by first | exact hg | exact grown_refl _ _ | exact grown_trans hg (World.grownBy_alloc _ _ none)⟩
  case round =>
    obtain ⟨rfl, hg⟩ := hrel
    go_wp2
    go_loopg [6, 7, 8] 0 (fun _ i _ _ wr => i = .int .i64 0 ∧ w.grownBy wr none)
    case atStart => exact ⟨rfl, by first | exact hg | exact grown_refl _ _ | exact grown_trans hg (World.grownBy_alloc _ _ none)⟩
    case round =>
      obtain ⟨rfl, hg⟩ := hrel
      go_wp2
      go_loopg [9, 10] 0 (fun _ i _ wr => i = .int .i64 0 ∧ w.grownBy wr none)
      case atStart => exact ⟨rfl, by first | exact hg | exact grown_refl _ _ | exact grown_trans hg (World.grownBy_alloc _ _ none)⟩
      case round =>
        obtain ⟨rfl, hg⟩ := hrel
        go_wp2
        go_loopg [11, 12, 13] 0 (fun _ i _ _ wr => i = .int .i64 0 ∧ w.grownBy wr none)
        case atStart => exact ⟨rfl, by first | exact hg | exact grown_refl _ _ | exact grown_trans hg (World.grownBy_alloc _ _ none)⟩
        case round =>
          obtain ⟨rfl, hg⟩ := hrel
          go_wp2
          go_loopg [14, 15] 0 (fun _ i _ wr => i = .int .i64 0 ∧ w.grownBy wr none)
          case atStart => exact ⟨rfl, by first | exact hg | exact grown_refl _ _ | exact grown_trans hg (World.grownBy_alloc _ _ none)⟩
          case round =>
            obtain ⟨rfl, hg⟩ := hrel
            go_wp2
            go_ret
            exact ⟨rfl, hg⟩

set_option maxRecDepth 100000 in
set_option maxHeartbeats 1000000 in
theorem nil_77 (w : World) : Calls Try.prog 77 #[.slice none 0 0] w fun e w' => e = .returned (.bool true) ∧ w.grownBy w' none := by
  have hmk := fun w => make_none 88 165 Try.underlying88 (by kernel_rfl) w
  go_enter Try.func77, Try.ntmps77
  go_wp2
  go_loopg [3, 4] 0 (fun _ i _ wr => i = .int .i64 0 ∧ w.grownBy wr none)
  case atStart => exact ⟨rfl, by first | exact hg | exact grown_refl _ _ | exact grown_trans hg (World.grownBy_alloc _ _ none)⟩
  case round =>
    obtain ⟨rfl, hg⟩ := hrel
    go_wp2
    go_loopg [6, 7, 8] 0 (fun _ i _ _ wr => i = .int .i64 0 ∧ w.grownBy wr none)
    case atStart => exact ⟨rfl, by first | exact hg | exact grown_refl _ _ | exact grown_trans hg (World.grownBy_alloc _ _ none)⟩
    case round =>
      obtain ⟨rfl, hg⟩ := hrel
      go_wp2
      go_loopg [9, 10] 0 (fun _ i _ wr => i = .int .i64 0 ∧ w.grownBy wr none)
      case atStart => exact ⟨rfl, by first | exact hg | exact grown_refl _ _ | exact grown_trans hg (World.grownBy_alloc _ _ none)⟩
      case round =>
        obtain ⟨rfl, hg⟩ := hrel
        go_wp2
        go_loopg [11, 12, 13] 0 (fun _ i _ _ wr => i = .int .i64 0 ∧ w.grownBy wr none)
        case atStart => exact ⟨rfl, by first | exact hg | exact grown_refl _ _ | exact grown_trans hg (World.grownBy_alloc _ _ none)⟩
        case round =>
          obtain ⟨rfl, hg⟩ := hrel
          go_wp2
          go_loopg [14, 15] 0 (fun _ i _ wr => i = .int .i64 0 ∧ w.grownBy wr none)
          case atStart => exact ⟨rfl, by first | exact hg | exact grown_refl _ _ | exact grown_trans hg (World.grownBy_alloc _ _ none)⟩
          case round =>
            obtain ⟨rfl, hg⟩ := hrel
            go_wp2
            go_ret
            exact ⟨rfl, hg⟩

set_option maxRecDepth 100000 in
set_option maxHeartbeats 1000000 in
theorem nil_78 (w : World) : Calls Try.prog 78 #[.slice none 0 0] w fun e w' => e = .returned (.bool true) ∧ w.grownBy w' none := by
  have hmk := fun w => make_none 89 169 Try.underlying89 (by kernel_rfl) w
  go_enter Try.func78, Try.ntmps78
  go_wp2
  go_loopg [3, 4] 0 (fun _ i _ wr => i = .int .i64 0 ∧ w.grownBy wr none)
  case atStart => exact ⟨rfl, by first | exact hg | exact grown_refl _ _ | exact grown_trans hg (World.grownBy_alloc _ _ none)⟩
  case round =>
    obtain ⟨rfl, hg⟩ := hrel
    go_wp2
    go_loopg [6, 7, 8] 0 (fun _ i _ _ wr => i = .int .i64 0 ∧ w.grownBy wr none)
    case atStart => exact ⟨rfl, by first | exact hg | exact grown_refl _ _ | exact grown_trans hg (World.grownBy_alloc _ _ none)⟩
    case round =>
      obtain ⟨rfl, hg⟩ := hrel
      go_wp2
      go_loopg [9, 10] 0 (fun _ i _ wr => i = .int .i64 0 ∧ w.grownBy wr none)
      case atStart => exact ⟨rfl, by first | exact hg | exact grown_refl _ _ | exact grown_trans hg (World.grownBy_alloc _ _ none)⟩
      case round =>
        obtain ⟨rfl, hg⟩ := hrel
        go_wp2
        go_loopg [11, 12, 13] 0 (fun _ i _ _ wr => i = .int .i64 0 ∧ w.grownBy wr none)
        case atStart => exact ⟨rfl, by first | exact hg | exact grown_refl _ _ | exact grown_trans hg (World.grownBy_alloc _ _ none)⟩
        case round =>
          obtain ⟨rfl, hg⟩ := hrel
          go_wp2
          go_loopg [14, 15] 0 (fun _ i _ wr => i = .int .i64 0 ∧ w.grownBy wr none)
          case atStart => exact ⟨rfl, by first | exact hg | exact grown_refl _ _ | exact grown_trans hg (World.grownBy_alloc _ _ none)⟩
          case round =>
            obtain ⟨rfl, hg⟩ := hrel
            go_wp2
            go_ret
            exact ⟨rfl, hg⟩
end Go.Proofs.Ytbebblhnhpdpjaa.Ap
