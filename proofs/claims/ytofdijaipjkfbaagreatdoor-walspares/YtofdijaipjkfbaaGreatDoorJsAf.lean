/- Texts joined: KNil. -/
import Derived.Test.YtofdijaipjkfbaaGreatDoorJsAa
/- The contracts of the flat functions at no list. (By program: mknil.py.) -/
namespace Go.Proofs.YtofdijaipjkfbaaGreatDoor.Ap
open Go.RowKit
attribute [local go_sem ↓] Go.wp_at_zero Go.wp_at_succ

/-- The cells of a list of nothing. -/
noncomputable def noCells (E : TypeId) : Array Value := match Tryz.prog.info? E with | some i => (match i.zero with | some z => madeCells z.cells (0 * i.size) | none => #[]) | none => #[]
theorem make_none (T E : TypeId) (hu : Tryz.prog.underlying T = some (.slice E)) (hi : ((Tryz.prog.info? E).bind (·.zero)).isSome = true) (w : World) :
    (Instr.makeSlice T (.int .i64 0) (.int .i64 0)).run Tryz.prog w = .ok (.slice (some ⟨w.heap.size, 0, none⟩) 0 0) (w.alloc (.cells (noCells E) E)) := by
  cases hq : Tryz.prog.info? E with
  | none => rw [hq] at hi; cases hi
  | some i =>
    rw [hq] at hi
    simp only [Option.bind_some] at hi
    obtain ⟨z, hz⟩ := Option.isSome_iff_exists.1 hi
    have h := run_make (P := Tryz.prog) (w := w) T E i z hu hq hz .i64 .i64 0 0 (by omega) (by omega) (by omega) (by omega)
    have e : noCells E = madeCells z.cells ((0 : Int).toNat * i.size) := by unfold noCells; rw [hq]; simp only []; rw [hz]; rfl
    rw [e]
    exact h

set_option maxRecDepth 100000 in
set_option maxHeartbeats 1000000 in
theorem nil_118 (w : World) : Calls Tryz.prog 118 #[.slice none 0 0] w fun e w' => e = .returned (.bool true) ∧ w.grownBy w' none := by
  have hmk := fun w => make_none _ _ Tryz.underlying114 (by kernel_rfl) w
  go_enter Tryz.func118, Tryz.ntmps118
  go_wp2
  go_loopg [3, 4] 0 (fun _ i _ wr => i = .int .i64 0 ∧ w.grownBy wr none)
  case atStart => exact ⟨rfl, by first | exact hg | exact grown_refl _ _ | exact grown_trans hg (World.grownBy_alloc _ _ none)⟩
  case round =>
    obtain ⟨rfl, hg⟩ := hrel
    go_wp2
    go_loopg [6, 7, 8] 0 (fun _ i _ _ wr => i = .int .i64 0 ∧ w.grownBy wr none)
    case atStart => exact ⟨rfl, by first | exact hg | exact grown_refl _ _ | exact grown_trans hg (World.grownBy_alloc _ _ none)⟩
    case round =>
      obtain ⟨rfl, hg⟩ := hrel
      go_wp2
      go_loopg [9, 10] 0 (fun _ i _ wr => i = .int .i64 0 ∧ w.grownBy wr none)
      case atStart => exact ⟨rfl, by first | exact hg | exact grown_refl _ _ | exact grown_trans hg (World.grownBy_alloc _ _ none)⟩
      case round =>
        obtain ⟨rfl, hg⟩ := hrel
        go_wp2
        go_loopg [11, 12, 13] 0 (fun _ i _ _ wr => i = .int .i64 0 ∧ w.grownBy wr none)
        case atStart => exact ⟨rfl, by first | exact hg | exact grown_refl _ _ | exact grown_trans hg (World.grownBy_alloc _ _ none)⟩
        case round =>
          obtain ⟨rfl, hg⟩ := hrel
          go_wp2
          go_loopg [14, 15] 0 (fun _ i _ wr => i = .int .i64 0 ∧ w.grownBy wr none)
          case atStart => exact ⟨rfl, by first | exact hg | exact grown_refl _ _ | exact grown_trans hg (World.grownBy_alloc _ _ none)⟩
          case round =>
            obtain ⟨rfl, hg⟩ := hrel
            go_wp2
            go_ret
            exact ⟨rfl, hg⟩

set_option maxRecDepth 100000 in
set_option maxHeartbeats 1000000 in
theorem nil_119 (w : World) : Calls Tryz.prog 119 #[.slice none 0 0] w fun e w' => e = .returned (.bool true) ∧ w.grownBy w' none := by
  have hmk := fun w => make_none _ _ Tryz.underlying115 (by kernel_rfl) w
  go_enter Tryz.func119, Tryz.ntmps119
  go_wp2
  go_loopg [3, 4] 0 (fun _ i _ wr => i = .int .i64 0 ∧ w.grownBy wr none)
  case atStart => exact ⟨rfl, by first | exact hg | exact grown_refl _ _ | exact grown_trans hg (World.grownBy_alloc _ _ none)⟩
  case round =>
    obtain ⟨rfl, hg⟩ := hrel
    go_wp2
    go_loopg [6, 7, 8] 0 (fun _ i _ _ wr => i = .int .i64 0 ∧ w.grownBy wr none)
    case atStart => exact ⟨rfl, by first | exact hg | exact grown_refl _ _ | exact grown_trans hg (World.grownBy_alloc _ _ none)⟩
    case round =>
      obtain ⟨rfl, hg⟩ := hrel
      go_wp2
      go_loopg [9, 10] 0 (fun _ i _ wr => i = .int .i64 0 ∧ w.grownBy wr none)
      case atStart => exact ⟨rfl, by first | exact hg | exact grown_refl _ _ | exact grown_trans hg (World.grownBy_alloc _ _ none)⟩
      case round =>
        obtain ⟨rfl, hg⟩ := hrel
        go_wp2
        go_loopg [11, 12, 13] 0 (fun _ i _ _ wr => i = .int .i64 0 ∧ w.grownBy wr none)
        case atStart => exact ⟨rfl, by first | exact hg | exact grown_refl _ _ | exact grown_trans hg (World.grownBy_alloc _ _ none)⟩
        case round =>
          obtain ⟨rfl, hg⟩ := hrel
          go_wp2
          go_loopg [14, 15] 0 (fun _ i _ wr => i = .int .i64 0 ∧ w.grownBy wr none)
          case atStart => exact ⟨rfl, by first | exact hg | exact grown_refl _ _ | exact grown_trans hg (World.grownBy_alloc _ _ none)⟩
          case round =>
            obtain ⟨rfl, hg⟩ := hrel
            go_wp2
            go_ret
            exact ⟨rfl, hg⟩

set_option maxRecDepth 100000 in
set_option maxHeartbeats 1000000 in
theorem nil_120 (w : World) : Calls Tryz.prog 120 #[.slice none 0 0] w fun e w' => e = .returned (.bool true) ∧ w.grownBy w' none := by
  have hmk := fun w => make_none _ _ Tryz.underlying116 (by kernel_rfl) w
  go_enter Tryz.func120, Tryz.ntmps120
  go_wp2
  go_loopg [3, 4] 0 (fun _ i _ wr => i = .int .i64 0 ∧ w.grownBy wr none)
  case atStart => exact ⟨rfl, by first | exact hg | exact grown_refl _ _ | exact grown_trans hg (World.grownBy_alloc _ _ none)⟩
  case round =>
    obtain ⟨rfl, hg⟩ := hrel
    go_wp2
    go_loopg [6, 7, 8] 0 (fun _ i _ _ wr => i = .int .i64 0 ∧ w.grownBy wr none)
    case atStart => exact ⟨rfl, by first | exact hg | exact grown_refl _ _ | exact grown_trans hg (World.grownBy_alloc _ _ none)⟩
    case round =>
      obtain ⟨rfl, hg⟩ := hrel
      go_wp2
      go_loopg [9, 10] 0 (fun _ i _ wr => i = .int .i64 0 ∧ w.grownBy wr none)
      case atStart => exact ⟨rfl, by first | exact hg | exact grown_refl _ _ | exact grown_trans hg (World.grownBy_alloc _ _ none)⟩
      case round =>
        obtain ⟨rfl, hg⟩ := hrel
        go_wp2
        go_loopg [11, 12, 13] 0 (fun _ i _ _ wr => i = .int .i64 0 ∧ w.grownBy wr none)
        case atStart => exact ⟨rfl, by first | exact hg | exact grown_refl _ _ | exact grown_trans hg (World.grownBy_alloc _ _ none)⟩
        case round =>
          obtain ⟨rfl, hg⟩ := hrel
          go_wp2
          go_loopg [14, 15] 0 (fun _ i _ wr => i = .int .i64 0 ∧ w.grownBy wr none)
          case atStart => exact ⟨rfl, by first | exact hg | exact grown_refl _ _ | exact grown_trans hg (World.grownBy_alloc _ _ none)⟩
          case round =>
            obtain ⟨rfl, hg⟩ := hrel
            go_wp2
            go_ret
            exact ⟨rfl, hg⟩

set_option maxRecDepth 100000 in
set_option maxHeartbeats 1000000 in
theorem nil_121 (w : World) : Calls Tryz.prog 121 #[.slice none 0 0] w fun e w' => e = .returned (.bool true) ∧ w.grownBy w' none := by
  have hmk := fun w => make_none _ _ Tryz.underlying117 (by kernel_rfl) w
  go_enter Tryz.func121, Tryz.ntmps121
  go_wp2
  go_loopg [3, 4] 0 (fun _ i _ wr => i = .int .i64 0 ∧ w.grownBy wr none)
  case atStart => exact ⟨rfl, by first | exact hg | exact grown_refl _ _ | exact grown_trans hg (World.grownBy_alloc _ _ none)⟩
  case round =>
    obtain ⟨rfl, hg⟩ := hrel
    go_wp2
    go_loopg [6, 7, 8] 0 (fun _ i _ _ wr => i = .int .i64 0 ∧ w.grownBy wr none)
    case atStart => exact ⟨rfl, by first | exact hg | exact grown_refl _ _ | exact grown_trans hg (World.grownBy_alloc _ _ none)⟩
    case round =>
      obtain ⟨rfl, hg⟩ := hrel
      go_wp2
      go_loopg [9, 10] 0 (fun _ i _ wr => i = .int .i64 0 ∧ w.grownBy wr none)
      case atStart => exact ⟨rfl, by first | exact hg | exact grown_refl _ _ | exact grown_trans hg (World.grownBy_alloc _ _ none)⟩
      case round =>
        obtain ⟨rfl, hg⟩ := hrel
        go_wp2
        go_loopg [11, 12, 13] 0 (fun _ i _ _ wr => i = .int .i64 0 ∧ w.grownBy wr none)
        case atStart => exact ⟨rfl, by first | exact hg | exact grown_refl _ _ | exact grown_trans hg (World.grownBy_alloc _ _ none)⟩
        case round =>
          obtain ⟨rfl, hg⟩ := hrel
          go_wp2
          go_loopg [14, 15] 0 (fun _ i _ wr => i = .int .i64 0 ∧ w.grownBy wr none)
          case atStart => exact ⟨rfl, by first | exact hg | exact grown_refl _ _ | exact grown_trans hg (World.grownBy_alloc _ _ none)⟩
          case round =>
            obtain ⟨rfl, hg⟩ := hrel
            go_wp2
            go_ret
            exact ⟨rfl, hg⟩

set_option maxRecDepth 100000 in
set_option maxHeartbeats 1000000 in
theorem nil_123 (w : World) : Calls Tryz.prog 123 #[.slice none 0 0] w fun e w' => e = .returned (.bool true) ∧ w.grownBy w' none := by
  have hmk := fun w => make_none _ _ Tryz.underlying118 (by kernel_rfl) w
  go_enter Tryz.func123, Tryz.ntmps123
  go_wp2
  go_loopg [3, 4] 0 (fun _ i _ wr => i = .int .i64 0 ∧ w.grownBy wr none)
  case atStart => exact ⟨rfl, by first | exact hg | exact grown_refl _ _ | exact grown_trans hg (World.grownBy_alloc _ _ none)⟩
  case round =>
    obtain ⟨rfl, hg⟩ := hrel
    go_wp2
    go_loopg [6, 7, 8] 0 (fun _ i _ _ wr => i = .int .i64 0 ∧ w.grownBy wr none)
    case atStart => exact ⟨rfl, by first | exact hg | exact grown_refl _ _ | exact grown_trans hg (World.grownBy_alloc _ _ none)⟩
    case round =>
      obtain ⟨rfl, hg⟩ := hrel
      go_wp2
      go_loopg [9, 10] 0 (fun _ i _ wr => i = .int .i64 0 ∧ w.grownBy wr none)
      case atStart => exact ⟨rfl, by first | exact hg | exact grown_refl _ _ | exact grown_trans hg (World.grownBy_alloc _ _ none)⟩
      case round =>
        obtain ⟨rfl, hg⟩ := hrel
        go_wp2
        go_loopg [11, 12, 13] 0 (fun _ i _ _ wr => i = .int .i64 0 ∧ w.grownBy wr none)
        case atStart => exact ⟨rfl, by first | exact hg | exact grown_refl _ _ | exact grown_trans hg (World.grownBy_alloc _ _ none)⟩
        case round =>
          obtain ⟨rfl, hg⟩ := hrel
          go_wp2
          go_loopg [14, 15] 0 (fun _ i _ wr => i = .int .i64 0 ∧ w.grownBy wr none)
          case atStart => exact ⟨rfl, by first | exact hg | exact grown_refl _ _ | exact grown_trans hg (World.grownBy_alloc _ _ none)⟩
          case round =>
            obtain ⟨rfl, hg⟩ := hrel
            go_wp2
            go_ret
            exact ⟨rfl, hg⟩

set_option maxRecDepth 100000 in
set_option maxHeartbeats 1000000 in
theorem nil_124 (w : World) : Calls Tryz.prog 124 #[.slice none 0 0] w fun e w' => e = .returned (.bool true) ∧ w.grownBy w' none := by
  have hmk := fun w => make_none _ _ Tryz.underlying119 (by kernel_rfl) w
  go_enter Tryz.func124, Tryz.ntmps124
  go_wp2
  go_loopg [3, 4] 0 (fun _ i _ wr => i = .int .i64 0 ∧ w.grownBy wr none)
  case atStart => exact ⟨rfl, by first | exact hg | exact grown_refl _ _ | exact grown_trans hg (World.grownBy_alloc _ _ none)⟩
  case round =>
    obtain ⟨rfl, hg⟩ := hrel
    go_wp2
    go_loopg [6, 7, 8] 0 (fun _ i _ _ wr => i = .int .i64 0 ∧ w.grownBy wr none)
    case atStart => exact ⟨rfl, by first | exact hg | exact grown_refl _ _ | exact grown_trans hg (World.grownBy_alloc _ _ none)⟩
    case round =>
      obtain ⟨rfl, hg⟩ := hrel
      go_wp2
      go_loopg [9, 10] 0 (fun _ i _ wr => i = .int .i64 0 ∧ w.grownBy wr none)
      case atStart => exact ⟨rfl, by first | exact hg | exact grown_refl _ _ | exact grown_trans hg (World.grownBy_alloc _ _ none)⟩
      case round =>
        obtain ⟨rfl, hg⟩ := hrel
        go_wp2
        go_loopg [11, 12, 13] 0 (fun _ i _ _ wr => i = .int .i64 0 ∧ w.grownBy wr none)
        case atStart => exact ⟨rfl, by first | exact hg | exact grown_refl _ _ | exact grown_trans hg (World.grownBy_alloc _ _ none)⟩
        case round =>
          obtain ⟨rfl, hg⟩ := hrel
          go_wp2
          go_loopg [14, 15] 0 (fun _ i _ wr => i = .int .i64 0 ∧ w.grownBy wr none)
          case atStart => exact ⟨rfl, by first | exact hg | exact grown_refl _ _ | exact grown_trans hg (World.grownBy_alloc _ _ none)⟩
          case round =>
            obtain ⟨rfl, hg⟩ := hrel
            go_wp2
            go_ret
            exact ⟨rfl, hg⟩

set_option maxRecDepth 100000 in
set_option maxHeartbeats 1000000 in
theorem nil_125 (w : World) : Calls Tryz.prog 125 #[.slice none 0 0] w fun e w' => e = .returned (.bool true) ∧ w.grownBy w' none := by
  have hmk := fun w => make_none _ _ Tryz.underlying120 (by kernel_rfl) w
  go_enter Tryz.func125, Tryz.ntmps125
  go_wp2
  go_loopg [3, 4] 0 (fun _ i _ wr => i = .int .i64 0 ∧ w.grownBy wr none)
  case atStart => exact ⟨rfl, by first | exact hg | exact grown_refl _ _ | exact grown_trans hg (World.grownBy_alloc _ _ none)⟩
  case round =>
    obtain ⟨rfl, hg⟩ := hrel
    go_wp2
    go_loopg [6, 7, 8] 0 (fun _ i _ _ wr => i = .int .i64 0 ∧ w.grownBy wr none)
    case atStart => exact ⟨rfl, by first | exact hg | exact grown_refl _ _ | exact grown_trans hg (World.grownBy_alloc _ _ none)⟩
    case round =>
      obtain ⟨rfl, hg⟩ := hrel
      go_wp2
      go_loopg [9, 10] 0 (fun _ i _ wr => i = .int .i64 0 ∧ w.grownBy wr none)
      case atStart => exact ⟨rfl, by first | exact hg | exact grown_refl _ _ | exact grown_trans hg (World.grownBy_alloc _ _ none)⟩
      case round =>
        obtain ⟨rfl, hg⟩ := hrel
        go_wp2
        go_loopg [11, 12, 13] 0 (fun _ i _ _ wr => i = .int .i64 0 ∧ w.grownBy wr none)
        case atStart => exact ⟨rfl, by first | exact hg | exact grown_refl _ _ | exact grown_trans hg (World.grownBy_alloc _ _ none)⟩
        case round =>
          obtain ⟨rfl, hg⟩ := hrel
          go_wp2
          go_loopg [14, 15] 0 (fun _ i _ wr => i = .int .i64 0 ∧ w.grownBy wr none)
          case atStart => exact ⟨rfl, by first | exact hg | exact grown_refl _ _ | exact grown_trans hg (World.grownBy_alloc _ _ none)⟩
          case round =>
            obtain ⟨rfl, hg⟩ := hrel
            go_wp2
            go_ret
            exact ⟨rfl, hg⟩

set_option maxRecDepth 100000 in
set_option maxHeartbeats 1000000 in
theorem nil_126 (w : World) : Calls Tryz.prog 126 #[.slice none 0 0] w fun e w' => e = .returned (.bool true) ∧ w.grownBy w' none := by
  have hmk := fun w => make_none _ _ Tryz.underlying75 (by kernel_rfl) w
  go_enter Tryz.func126, Tryz.ntmps126
  go_wp2
  go_loopg [3, 4] 0 (fun _ i _ wr => i = .int .i64 0 ∧ w.grownBy wr none)
  case atStart => exact ⟨rfl, by first | exact hg | exact grown_refl _ _ | exact grown_trans hg (World.grownBy_alloc _ _ none)⟩
  case round =>
    obtain ⟨rfl, hg⟩ := hrel
    go_wp2
    go_loopg [6, 7, 8] 0 (fun _ i _ _ wr => i = .int .i64 0 ∧ w.grownBy wr none)
    case atStart => exact ⟨rfl, by first | exact hg | exact grown_refl _ _ | exact grown_trans hg (World.grownBy_alloc _ _ none)⟩
    case round =>
      obtain ⟨rfl, hg⟩ := hrel
      go_wp2
      go_loopg [9, 10] 0 (fun _ i _ wr => i = .int .i64 0 ∧ w.grownBy wr none)
      case atStart => exact ⟨rfl, by first | exact hg | exact grown_refl _ _ | exact grown_trans hg (World.grownBy_alloc _ _ none)⟩
      case round =>
        obtain ⟨rfl, hg⟩ := hrel
        go_wp2
        go_loopg [11, 12, 13] 0 (fun _ i _ _ wr => i = .int .i64 0 ∧ w.grownBy wr none)
        case atStart => exact ⟨rfl, by first | exact hg | exact grown_refl _ _ | exact grown_trans hg (World.grownBy_alloc _ _ none)⟩
        case round =>
          obtain ⟨rfl, hg⟩ := hrel
          go_wp2
          go_loopg [14, 15] 0 (fun _ i _ wr => i = .int .i64 0 ∧ w.grownBy wr none)
          case atStart => exact ⟨rfl, by first | exact hg | exact grown_refl _ _ | exact grown_trans hg (World.grownBy_alloc _ _ none)⟩
          case round =>
            obtain ⟨rfl, hg⟩ := hrel
            go_wp2
            go_ret
            exact ⟨rfl, hg⟩

set_option maxRecDepth 100000 in
set_option maxHeartbeats 1000000 in
theorem nil_127 (w : World) : Calls Tryz.prog 127 #[.slice none 0 0] w fun e w' => e = .returned (.bool true) ∧ w.grownBy w' none := by
  have hmk := fun w => make_none _ _ Tryz.underlying121 (by kernel_rfl) w
  go_enter Tryz.func127, Tryz.ntmps127
  go_wp2
  go_loopg [3, 4] 0 (fun _ i _ wr => i = .int .i64 0 ∧ w.grownBy wr none)
  case atStart => exact ⟨rfl, by first | exact hg | exact grown_refl _ _ | exact grown_trans hg (World.grownBy_alloc _ _ none)⟩
  case round =>
    obtain ⟨rfl, hg⟩ := hrel
    go_wp2
    go_loopg [6, 7, 8] 0 (fun _ i _ _ wr => i = .int .i64 0 ∧ w.grownBy wr none)
    case atStart => exact ⟨rfl, by first | exact hg | exact grown_refl _ _ | exact grown_trans hg (World.grownBy_alloc _ _ none)⟩
    case round =>
      obtain ⟨rfl, hg⟩ := hrel
      go_wp2
      go_loopg [9, 10] 0 (fun _ i _ wr => i = .int .i64 0 ∧ w.grownBy wr none)
      case atStart => exact ⟨rfl, by first | exact hg | exact grown_refl _ _ | exact grown_trans hg (World.grownBy_alloc _ _ none)⟩
      case round =>
        obtain ⟨rfl, hg⟩ := hrel
        go_wp2
        go_loopg [11, 12, 13] 0 (fun _ i _ _ wr => i = .int .i64 0 ∧ w.grownBy wr none)
        case atStart => exact ⟨rfl, by first | exact hg | exact grown_refl _ _ | exact grown_trans hg (World.grownBy_alloc _ _ none)⟩
        case round =>
          obtain ⟨rfl, hg⟩ := hrel
          go_wp2
          go_loopg [14, 15] 0 (fun _ i _ wr => i = .int .i64 0 ∧ w.grownBy wr none)
          case atStart => exact ⟨rfl, by first | exact hg | exact grown_refl _ _ | exact grown_trans hg (World.grownBy_alloc _ _ none)⟩
          case round =>
            obtain ⟨rfl, hg⟩ := hrel
            go_wp2
            go_ret
            exact ⟨rfl, hg⟩

set_option maxRecDepth 100000 in
set_option maxHeartbeats 1000000 in
theorem nil_128 (w : World) : Calls Tryz.prog 128 #[.slice none 0 0] w fun e w' => e = .returned (.bool true) ∧ w.grownBy w' none := by
  have hmk := fun w => make_none _ _ Tryz.underlying122 (by kernel_rfl) w
  go_enter Tryz.func128, Tryz.ntmps128
  go_wp2
  go_loopg [3, 4] 0 (fun _ i _ wr => i = .int .i64 0 ∧ w.grownBy wr none)
  case atStart => exact ⟨rfl, by first | exact hg | exact grown_refl _ _ | exact grown_trans hg (World.grownBy_alloc _ _ none)⟩
  case round =>
    obtain ⟨rfl, hg⟩ := hrel
    go_wp2
    go_loopg [6, 7, 8] 0 (fun _ i _ _ wr => i = .int .i64 0 ∧ w.grownBy wr none)
    case atStart => exact ⟨rfl, by first | exact hg | exact grown_refl _ _ | exact grown_trans hg (World.grownBy_alloc _ _ none)⟩
    case round =>
      obtain ⟨rfl, hg⟩ := hrel
      go_wp2
      go_loopg [9, 10] 0 (fun _ i _ wr => i = .int .i64 0 ∧ w.grownBy wr none)
      case atStart => exact ⟨rfl, by first | exact hg | exact grown_refl _ _ | exact grown_trans hg (World.grownBy_alloc _ _ none)⟩
      case round =>
        obtain ⟨rfl, hg⟩ := hrel
        go_wp2
        go_loopg [11, 12, 13] 0 (fun _ i _ _ wr => i = .int .i64 0 ∧ w.grownBy wr none)
        case atStart => exact ⟨rfl, by first | exact hg | exact grown_refl _ _ | exact grown_trans hg (World.grownBy_alloc _ _ none)⟩
        case round =>
          obtain ⟨rfl, hg⟩ := hrel
          go_wp2
          go_loopg [14, 15] 0 (fun _ i _ wr => i = .int .i64 0 ∧ w.grownBy wr none)
          case atStart => exact ⟨rfl, by first | exact hg | exact grown_refl _ _ | exact grown_trans hg (World.grownBy_alloc _ _ none)⟩
          case round =>
            obtain ⟨rfl, hg⟩ := hrel
            go_wp2
            go_ret
            exact ⟨rfl, hg⟩

set_option maxRecDepth 100000 in
set_option maxHeartbeats 1000000 in
theorem nil_129 (w : World) : Calls Tryz.prog 129 #[.slice none 0 0] w fun e w' => e = .returned (.bool true) ∧ w.grownBy w' none := by
  have hmk := fun w => make_none _ _ Tryz.underlying123 (by kernel_rfl) w
  go_enter Tryz.func129, Tryz.ntmps129
  go_wp2
  go_loopg [3, 4] 0 (fun _ i _ wr => i = .int .i64 0 ∧ w.grownBy wr none)
  case atStart => exact ⟨rfl, by first | exact hg | exact grown_refl _ _ | exact grown_trans hg (World.grownBy_alloc _ _ none)⟩
  case round =>
    obtain ⟨rfl, hg⟩ := hrel
    go_wp2
    go_loopg [6, 7, 8] 0 (fun _ i _ _ wr => i = .int .i64 0 ∧ w.grownBy wr none)
    case atStart => exact ⟨rfl, by first | exact hg | exact grown_refl _ _ | exact grown_trans hg (World.grownBy_alloc _ _ none)⟩
    case round =>
      obtain ⟨rfl, hg⟩ := hrel
      go_wp2
      go_loopg [9, 10] 0 (fun _ i _ wr => i = .int .i64 0 ∧ w.grownBy wr none)
      case atStart => exact ⟨rfl, by first | exact hg | exact grown_refl _ _ | exact grown_trans hg (World.grownBy_alloc _ _ none)⟩
      case round =>
        obtain ⟨rfl, hg⟩ := hrel
        go_wp2
        go_loopg [11, 12, 13] 0 (fun _ i _ _ wr => i = .int .i64 0 ∧ w.grownBy wr none)
        case atStart => exact ⟨rfl, by first | exact hg | exact grown_refl _ _ | exact grown_trans hg (World.grownBy_alloc _ _ none)⟩
        case round =>
          obtain ⟨rfl, hg⟩ := hrel
          go_wp2
          go_loopg [14, 15] 0 (fun _ i _ wr => i = .int .i64 0 ∧ w.grownBy wr none)
          case atStart => exact ⟨rfl, by first | exact hg | exact grown_refl _ _ | exact grown_trans hg (World.grownBy_alloc _ _ none)⟩
          case round =>
            obtain ⟨rfl, hg⟩ := hrel
            go_wp2
            go_ret
            exact ⟨rfl, hg⟩

set_option maxRecDepth 100000 in
set_option maxHeartbeats 1000000 in
theorem nil_130 (w : World) : Calls Tryz.prog 130 #[.slice none 0 0] w fun e w' => e = .returned (.bool true) ∧ w.grownBy w' none := by
  have hmk := fun w => make_none _ _ Tryz.underlying124 (by kernel_rfl) w
  go_enter Tryz.func130, Tryz.ntmps130
  go_wp2
  go_loopg [3, 4] 0 (fun _ i _ wr => i = .int .i64 0 ∧ w.grownBy wr none)
  case atStart => exact ⟨rfl, by first | exact hg | exact grown_refl _ _ | exact grown_trans hg (World.grownBy_alloc _ _ none)⟩
  case round =>
    obtain ⟨rfl, hg⟩ := hrel
    go_wp2
    go_loopg [6, 7, 8] 0 (fun _ i _ _ wr => i = .int .i64 0 ∧ w.grownBy wr none)
    case atStart => exact ⟨rfl, by first | exact hg | exact grown_refl _ _ | exact grown_trans hg (World.grownBy_alloc _ _ none)⟩
    case round =>
      obtain ⟨rfl, hg⟩ := hrel
      go_wp2
      go_loopg [9, 10] 0 (fun _ i _ wr => i = .int .i64 0 ∧ w.grownBy wr none)
      case atStart => exact ⟨rfl, by first | exact hg | exact grown_refl _ _ | exact grown_trans hg (World.grownBy_alloc _ _ none)⟩
      case round =>
        obtain ⟨rfl, hg⟩ := hrel
        go_wp2
        go_loopg [11, 12, 13] 0 (fun _ i _ _ wr => i = .int .i64 0 ∧ w.grownBy wr none)
        case atStart => exact ⟨rfl, by first | exact hg | exact grown_refl _ _ | exact grown_trans hg (World.grownBy_alloc _ _ none)⟩
        case round =>
          obtain ⟨rfl, hg⟩ := hrel
          go_wp2
          go_loopg [14, 15] 0 (fun _ i _ wr => i = .int .i64 0 ∧ w.grownBy wr none)
          case atStart => exact ⟨rfl, by first | exact hg | exact grown_refl _ _ | exact grown_trans hg (World.grownBy_alloc _ _ none)⟩
          case round =>
            obtain ⟨rfl, hg⟩ := hrel
            go_wp2
            go_ret
            exact ⟨rfl, hg⟩

set_option maxRecDepth 100000 in
set_option maxHeartbeats 1000000 in
theorem nil_131 (w : World) : Calls Tryz.prog 131 #[.slice none 0 0] w fun e w' => e = .returned (.bool true) ∧ w.grownBy w' none := by
  have hmk := fun w => make_none _ _ Tryz.underlying125 (by kernel_rfl) w
  go_enter Tryz.func131, Tryz.ntmps131
  go_wp2
  go_loopg [3, 4] 0 (fun _ i _ wr => i = .int .i64 0 ∧ w.grownBy wr none)
  case atStart => exact ⟨rfl, by first | exact hg | exact grown_refl _ _ | exact grown_trans hg (World.grownBy_alloc _ _ none)⟩
  case round =>
    obtain ⟨rfl, hg⟩ := hrel
    go_wp2
    go_loopg [6, 7, 8] 0 (fun _ i _ _ wr => i = .int .i64 0 ∧ w.grownBy wr none)
    case atStart => exact ⟨rfl, by first | exact hg | exact grown_refl _ _ | exact grown_trans hg (World.grownBy_alloc _ _ none)⟩
    case round =>
      obtain ⟨rfl, hg⟩ := hrel
      go_wp2
      go_loopg [9, 10] 0 (fun _ i _ wr => i = .int .i64 0 ∧ w.grownBy wr none)
      case atStart => exact ⟨rfl, by first | exact hg | exact grown_refl _ _ | exact grown_trans hg (World.grownBy_alloc _ _ none)⟩
      case round =>
        obtain ⟨rfl, hg⟩ := hrel
        go_wp2
        go_loopg [11, 12, 13] 0 (fun _ i _ _ wr => i = .int .i64 0 ∧ w.grownBy wr none)
        case atStart => exact ⟨rfl, by first | exact hg | exact grown_refl _ _ | exact grown_trans hg (World.grownBy_alloc _ _ none)⟩
        case round =>
          obtain ⟨rfl, hg⟩ := hrel
          go_wp2
          go_loopg [14, 15] 0 (fun _ i _ wr => i = .int .i64 0 ∧ w.grownBy wr none)
          case atStart => exact ⟨rfl, by first | exact hg | exact grown_refl _ _ | exact grown_trans hg (World.grownBy_alloc _ _ none)⟩
          case round =>
            obtain ⟨rfl, hg⟩ := hrel
            go_wp2
            go_ret
            exact ⟨rfl, hg⟩

set_option maxRecDepth 100000 in
set_option maxHeartbeats 1000000 in
theorem nil_132 (w : World) : Calls Tryz.prog 132 #[.slice none 0 0] w fun e w' => e = .returned (.bool true) ∧ w.grownBy w' none := by
  have hmk := fun w => make_none _ _ Tryz.underlying126 (by kernel_rfl) w
  go_enter Tryz.func132, Tryz.ntmps132
  go_wp2
  go_loopg [3, 4] 0 (fun _ i _ wr => i = .int .i64 0 ∧ w.grownBy wr none)
  case atStart => exact ⟨rfl, by first | exact hg | exact grown_refl _ _ | exact grown_trans hg (World.grownBy_alloc _ _ none)⟩
  case round =>
    obtain ⟨rfl, hg⟩ := hrel
    go_wp2
    go_loopg [6, 7, 8] 0 (fun _ i _ _ wr => i = .int .i64 0 ∧ w.grownBy wr none)
    case atStart => exact ⟨rfl, by first | exact hg | exact grown_refl _ _ | exact grown_trans hg (World.grownBy_alloc _ _ none)⟩
    case round =>
      obtain ⟨rfl, hg⟩ := hrel
      go_wp2
      go_loopg [9, 10] 0 (fun _ i _ wr => i = .int .i64 0 ∧ w.grownBy wr none)
      case atStart => exact ⟨rfl, by first | exact hg | exact grown_refl _ _ | exact grown_trans hg (World.grownBy_alloc _ _ none)⟩
      case round =>
        obtain ⟨rfl, hg⟩ := hrel
        go_wp2
        go_loopg [11, 12, 13] 0 (fun _ i _ _ wr => i = .int .i64 0 ∧ w.grownBy wr none)
        case atStart => exact ⟨rfl, by first | exact hg | exact grown_refl _ _ | exact grown_trans hg (World.grownBy_alloc _ _ none)⟩
        case round =>
          obtain ⟨rfl, hg⟩ := hrel
          go_wp2
          go_loopg [14, 15] 0 (fun _ i _ wr => i = .int .i64 0 ∧ w.grownBy wr none)
          case atStart => exact ⟨rfl, by first | exact hg | exact grown_refl _ _ | exact grown_trans hg (World.grownBy_alloc _ _ none)⟩
          case round =>
            obtain ⟨rfl, hg⟩ := hrel
            go_wp2
            go_ret
            exact ⟨rfl, hg⟩

set_option maxRecDepth 100000 in
set_option maxHeartbeats 1000000 in
theorem nil_133 (w : World) : Calls Tryz.prog 133 #[.slice none 0 0] w fun e w' => e = .returned (.bool true) ∧ w.grownBy w' none := by
  have hmk := fun w => make_none _ _ Tryz.underlying127 (by kernel_rfl) w
  go_enter Tryz.func133, Tryz.ntmps133
  go_wp2
  go_loopg [3, 4] 0 (fun _ i _ wr => i = .int .i64 0 ∧ w.grownBy wr none)
  case atStart => exact ⟨rfl, by first | exact hg | exact grown_refl _ _ | exact grown_trans hg (World.grownBy_alloc _ _ none)⟩
  case round =>
    obtain ⟨rfl, hg⟩ := hrel
    go_wp2
    go_loopg [6, 7, 8] 0 (fun _ i _ _ wr => i = .int .i64 0 ∧ w.grownBy wr none)
    case atStart => exact ⟨rfl, by first | exact hg | exact grown_refl _ _ | exact grown_trans hg (World.grownBy_alloc _ _ none)⟩
    case round =>
      obtain ⟨rfl, hg⟩ := hrel
      go_wp2
      go_loopg [9, 10] 0 (fun _ i _ wr => i = .int .i64 0 ∧ w.grownBy wr none)
      case atStart => exact ⟨rfl, by first | exact hg | exact grown_refl _ _ | exact grown_trans hg (World.grownBy_alloc _ _ none)⟩
      case round =>
        obtain ⟨rfl, hg⟩ := hrel
        go_wp2
        go_loopg [11, 12, 13] 0 (fun _ i _ _ wr => i = .int .i64 0 ∧ w.grownBy wr none)
        case atStart => exact ⟨rfl, by first | exact hg | exact grown_refl _ _ | exact grown_trans hg (World.grownBy_alloc _ _ none)⟩
        case round =>
          obtain ⟨rfl, hg⟩ := hrel
          go_wp2
          go_loopg [14, 15] 0 (fun _ i _ wr => i = .int .i64 0 ∧ w.grownBy wr none)
          case atStart => exact ⟨rfl, by first | exact hg | exact grown_refl _ _ | exact grown_trans hg (World.grownBy_alloc _ _ none)⟩
          case round =>
            obtain ⟨rfl, hg⟩ := hrel
            go_wp2
            go_ret
            exact ⟨rfl, hg⟩

set_option maxRecDepth 100000 in
set_option maxHeartbeats 1000000 in
theorem nil_134 (w : World) : Calls Tryz.prog 134 #[.slice none 0 0] w fun e w' => e = .returned (.bool true) ∧ w.grownBy w' none := by
  have hmk := fun w => make_none _ _ Tryz.underlying128 (by kernel_rfl) w
  go_enter Tryz.func134, Tryz.ntmps134
  go_wp2
  go_loopg [3, 4] 0 (fun _ i _ wr => i = .int .i64 0 ∧ w.grownBy wr none)
  case atStart => exact ⟨rfl, by first | exact hg | exact grown_refl _ _ | exact grown_trans hg (World.grownBy_alloc _ _ none)⟩
  case round =>
    obtain ⟨rfl, hg⟩ := hrel
    go_wp2
    go_loopg [6, 7, 8] 0 (fun _ i _ _ wr => i = .int .i64 0 ∧ w.grownBy wr none)
    case atStart => exact ⟨rfl, by first | exact hg | exact grown_refl _ _ | exact grown_trans hg (World.grownBy_alloc _ _ none)⟩
    case round =>
      obtain ⟨rfl, hg⟩ := hrel
      go_wp2
      go_loopg [9, 10] 0 (fun _ i _ wr => i = .int .i64 0 ∧ w.grownBy wr none)
      case atStart => exact ⟨rfl, by first | exact hg | exact grown_refl _ _ | exact grown_trans hg (World.grownBy_alloc _ _ none)⟩
      case round =>
        obtain ⟨rfl, hg⟩ := hrel
        go_wp2
        go_loopg [11, 12, 13] 0 (fun _ i _ _ wr => i = .int .i64 0 ∧ w.grownBy wr none)
        case atStart => exact ⟨rfl, by first | exact hg | exact grown_refl _ _ | exact grown_trans hg (World.grownBy_alloc _ _ none)⟩
        case round =>
          obtain ⟨rfl, hg⟩ := hrel
          go_wp2
          go_loopg [14, 15] 0 (fun _ i _ wr => i = .int .i64 0 ∧ w.grownBy wr none)
          case atStart => exact ⟨rfl, by first | exact hg | exact grown_refl _ _ | exact grown_trans hg (World.grownBy_alloc _ _ none)⟩
          case round =>
            obtain ⟨rfl, hg⟩ := hrel
            go_wp2
            go_ret
            exact ⟨rfl, hg⟩

set_option maxRecDepth 100000 in
set_option maxHeartbeats 1000000 in
theorem nil_135 (w : World) : Calls Tryz.prog 135 #[.slice none 0 0] w fun e w' => e = .returned (.bool true) ∧ w.grownBy w' none := by
  have hmk := fun w => make_none _ _ Tryz.underlying129 (by kernel_rfl) w
  go_enter Tryz.func135, Tryz.ntmps135
  go_wp2
  go_loopg [3, 4] 0 (fun _ i _ wr => i = .int .i64 0 ∧ w.grownBy wr none)
  case atStart => exact ⟨rfl, by first | exact hg | exact grown_refl _ _ | exact grown_trans hg (World.grownBy_alloc _ _ none)⟩
  case round =>
    obtain ⟨rfl, hg⟩ := hrel
    go_wp2
    go_loopg [6, 7, 8] 0 (fun _ i _ _ wr => i = .int .i64 0 ∧ w.grownBy wr none)
    case atStart => exact ⟨rfl, by first | exact hg | exact grown_refl _ _ | exact grown_trans hg (World.grownBy_alloc _ _ none)⟩
    case round =>
      obtain ⟨rfl, hg⟩ := hrel
      go_wp2
      go_loopg [9, 10] 0 (fun _ i _ wr => i = .int .i64 0 ∧ w.grownBy wr none)
      case atStart => exact ⟨rfl, by first | exact hg | exact grown_refl _ _ | exact grown_trans hg (World.grownBy_alloc _ _ none)⟩
      case round =>
        obtain ⟨rfl, hg⟩ := hrel
        go_wp2
        go_loopg [11, 12, 13] 0 (fun _ i _ _ wr => i = .int .i64 0 ∧ w.grownBy wr none)
        case atStart => exact ⟨rfl, by first | exact hg | exact grown_refl _ _ | exact grown_trans hg (World.grownBy_alloc _ _ none)⟩
        case round =>
          obtain ⟨rfl, hg⟩ := hrel
          go_wp2
          go_loopg [14, 15] 0 (fun _ i _ wr => i = .int .i64 0 ∧ w.grownBy wr none)
          case atStart => exact ⟨rfl, by first | exact hg | exact grown_refl _ _ | exact grown_trans hg (World.grownBy_alloc _ _ none)⟩
          case round =>
            obtain ⟨rfl, hg⟩ := hrel
            go_wp2
            go_ret
            exact ⟨rfl, hg⟩

set_option maxRecDepth 100000 in
set_option maxHeartbeats 1000000 in
theorem nil_136 (w : World) : Calls Tryz.prog 136 #[.slice none 0 0] w fun e w' => e = .returned (.bool true) ∧ w.grownBy w' none := by
  have hmk := fun w => make_none _ _ Tryz.underlying130 (by kernel_rfl) w
  go_enter Tryz.func136, Tryz.ntmps136
  go_wp2
  go_loopg [3, 4] 0 (fun _ i _ wr => i = .int .i64 0 ∧ w.grownBy wr none)
  case atStart => exact ⟨rfl, by first | exact hg | exact grown_refl _ _ | exact grown_trans hg (World.grownBy_alloc _ _ none)⟩
  case round =>
    obtain ⟨rfl, hg⟩ := hrel
    go_wp2
    go_loopg [6, 7, 8] 0 (fun _ i _ _ wr => i = .int .i64 0 ∧ w.grownBy wr none)
    case atStart => exact ⟨rfl, by first | exact hg | exact grown_refl _ _ | exact grown_trans hg (World.grownBy_alloc _ _ none)⟩
    case round =>
      obtain ⟨rfl, hg⟩ := hrel
      go_wp2
      go_loopg [9, 10] 0 (fun _ i _ wr => i = .int .i64 0 ∧ w.grownBy wr none)
      case atStart => exact ⟨rfl, by first | exact hg | exact grown_refl _ _ | exact grown_trans hg (World.grownBy_alloc _ _ none)⟩
      case round =>
        obtain ⟨rfl, hg⟩ := hrel
        go_wp2
        go_loopg [11, 12, 13] 0 (fun _ i _ _ wr => i = .int .i64 0 ∧ w.grownBy wr none)
        case atStart => exact ⟨rfl, by first | exact hg | exact grown_refl _ _ | exact grown_trans hg (World.grownBy_alloc _ _ none)⟩
        case round =>
          obtain ⟨rfl, hg⟩ := hrel
          go_wp2
          go_loopg [14, 15] 0 (fun _ i _ wr => i = .int .i64 0 ∧ w.grownBy wr none)
          case atStart => exact ⟨rfl, by first | exact hg | exact grown_refl _ _ | exact grown_trans hg (World.grownBy_alloc _ _ none)⟩
          case round =>
            obtain ⟨rfl, hg⟩ := hrel
            go_wp2
            go_ret
            exact ⟨rfl, hg⟩
end Go.Proofs.YtofdijaipjkfbaaGreatDoor.Ap
