/- Texts joined: KNil. -/
import Derived.Test.YtaopcidkgcekdaaGreatJsAp
/- The contracts of the flat functions at no list. (By program: mknil.py.) -/
namespace Go.Proofs.YtaopcidkgcekdaaGreat.Ap
open Go.RowKit
attribute [local go_sem ↓] Go.wp_at_zero Go.wp_at_succ

/-- The cells of a list of nothing. -/
noncomputable def noCells (E : TypeId) : Array Value := match Tryz.prog.info? E with | some i => (match i.zero with | some z => madeCells z.cells (0 * i.size) | none => #[]) | none => #[]
theorem make_none (T E : TypeId) (hu : Tryz.prog.underlying T = some (.slice E)) (hi : ((Tryz.prog.info? E).bind (·.zero)).isSome = true) (w : World) :
    (Instr.makeSlice T (.int .i64 0) (.int .i64 0)).run Tryz.prog w = .ok (.slice (some ⟨w.heap.size, 0, none⟩) 0 0) (w.alloc (.cells (noCells E) E)) := by
  cases hq : Tryz.prog.info? E with
  | none => rw [hq] at hi; cases hi
  | some i =>
    rw [hq] at hi
    simp only [Option.bind_some] at hi
    obtain ⟨z, hz⟩ := Option.isSome_iff_exists.1 hi
    have h := run_make (P := Tryz.prog) (w := w) T E i z hu hq hz .i64 .i64 0 0 (by omega) (by omega) (by omega) (by omega)
    have e : noCells E = madeCells z.cells ((0 : Int).toNat * i.size) := by unfold noCells; rw [hq]; simp only []; rw [hz]; rfl
    rw [e]
    exact h

set_option maxRecDepth 100000 in
set_option maxHeartbeats 1000000 in
theorem nil_68 (w : World) : Calls Tryz.prog 92 #[.slice none 0 0] w fun e w' => e = .returned (.bool true) ∧ w.grownBy w' none := by
  have hmk := fun w => make_none 94 145 Tryz.underlying94 (by kernel_rfl) w
  go_enter Tryz.func92, Tryz.ntmps92
  go_wp2
  go_loopg [3, 4] 0 (fun _ i _ wr => i = .int .i64 0 ∧ w.grownBy wr none)
  case atStart => exact ⟨rfl, by first | exact hg | exact grown_refl _ _ | exact grown_trans hg (World.grownBy_alloc _ _ none)⟩
  case round =>
    obtain ⟨rfl, hg⟩ := hrel
    go_wp2
    go_loopg [6, 7, 8] 0 (fun _ i _ _ wr => i = .int .i64 0 ∧ w.grownBy wr none)
    case atStart => exact ⟨rfl, by first | exact hg | exact grown_refl _ _ | exact grown_trans hg (World.grownBy_alloc _ _ none)⟩
    case round =>
      obtain ⟨rfl, hg⟩ := hrel
      go_wp2
      go_loopg [9, 10] 0 (fun _ i _ wr => i = .int .i64 0 ∧ w.grownBy wr none)
      case atStart => exact ⟨rfl, by first | exact hg | exact grown_refl _ _ | exact grown_trans hg (World.grownBy_alloc _ _ none)⟩
      case round =>
        obtain ⟨rfl, hg⟩ := hrel
        go_wp2
        go_loopg [11, 12, 13] 0 (fun _ i _ _ wr => i = .int .i64 0 ∧ w.grownBy wr none)
        case atStart => exact ⟨rfl, by first | exact hg | exact grown_refl _ _ | exact grown_trans hg (World.grownBy_alloc _ _ none)⟩
        case round =>
          obtain ⟨rfl, hg⟩ := hrel
          go_wp2
          go_loopg [14, 15] 0 (fun _ i _ wr => i = .int .i64 0 ∧ w.grownBy wr none)
          case atStart => exact ⟨rfl, by first | exact hg | exact grown_refl _ _ | exact grown_trans hg (World.grownBy_alloc _ _ none)⟩
          case round =>
            obtain ⟨rfl, hg⟩ := hrel
            go_wp2
            go_ret
            exact ⟨rfl, hg⟩

set_option maxRecDepth 100000 in
set_option maxHeartbeats 1000000 in
theorem nil_69 (w : World) : Calls Tryz.prog 93 #[.slice none 0 0] w fun e w' => e = .returned (.bool true) ∧ w.grownBy w' none := by
  have hmk := fun w => make_none 95 146 Tryz.underlying95 (by kernel_rfl) w
  go_enter Tryz.func93, Tryz.ntmps93
  go_wp2
  go_loopg [3, 4] 0 (fun _ i _ wr => i = .int .i64 0 ∧ w.grownBy wr none)
  case atStart => exact ⟨rfl, by first | exact hg | exact grown_refl _ _ | exact grown_trans hg (World.grownBy_alloc _ _ none)⟩
  case round =>
    obtain ⟨rfl, hg⟩ := hrel
    go_wp2
    go_loopg [6, 7, 8] 0 (fun _ i _ _ wr => i = .int .i64 0 ∧ w.grownBy wr none)
    case atStart => exact ⟨rfl, by first | exact hg | exact grown_refl _ _ | exact grown_trans hg (World.grownBy_alloc _ _ none)⟩
    case round =>
      obtain ⟨rfl, hg⟩ := hrel
      go_wp2
      go_loopg [9, 10] 0 (fun _ i _ wr => i = .int .i64 0 ∧ w.grownBy wr none)
      case atStart => exact ⟨rfl, by first | exact hg | exact grown_refl _ _ | exact grown_trans hg (World.grownBy_alloc _ _ none)⟩
      case round =>
        obtain ⟨rfl, hg⟩ := hrel
        go_wp2
        go_loopg [11, 12, 13] 0 (fun _ i _ _ wr => i = .int .i64 0 ∧ w.grownBy wr none)
        case atStart => exact ⟨rfl, by first | exact hg | exact grown_refl _ _ | exact grown_trans hg (World.grownBy_alloc _ _ none)⟩
        case round =>
          obtain ⟨rfl, hg⟩ := hrel
          go_wp2
          go_loopg [14, 15] 0 (fun _ i _ wr => i = .int .i64 0 ∧ w.grownBy wr none)
          case atStart => exact ⟨rfl, by first | exact hg | exact grown_refl _ _ | exact grown_trans hg (World.grownBy_alloc _ _ none)⟩
          case round =>
            obtain ⟨rfl, hg⟩ := hrel
            go_wp2
            go_ret
            exact ⟨rfl, hg⟩

set_option maxRecDepth 100000 in
set_option maxHeartbeats 1000000 in
theorem nil_70 (w : World) : Calls Tryz.prog 94 #[.slice none 0 0] w fun e w' => e = .returned (.bool true) ∧ w.grownBy w' none := by
  have hmk := fun w => make_none 96 147 Tryz.underlying96 (by kernel_rfl) w
  go_enter Tryz.func94, Tryz.ntmps94
  go_wp2
  go_loopg [3, 4] 0 (fun _ i _ wr => i = .int .i64 0 ∧ w.grownBy wr none)
  case atStart => exact ⟨rfl, by first | exact hg | exact grown_refl _ _ | exact grown_trans hg (World.grownBy_alloc _ _ none)⟩
  case round =>
    obtain ⟨rfl, hg⟩ := hrel
    go_wp2
    go_loopg [6, 7, 8] 0 (fun _ i _ _ wr => i = .int .i64 0 ∧ w.grownBy wr none)
    case atStart => exact ⟨rfl, by first | exact hg | exact grown_refl _ _ | exact grown_trans hg (World.grownBy_alloc _ _ none)⟩
    case round =>
      obtain ⟨rfl, hg⟩ := hrel
      go_wp2
      go_loopg [9, 10] 0 (fun _ i _ wr => i = .int .i64 0 ∧ w.grownBy wr none)
      case atStart => exact ⟨rfl, by first | exact hg | exact grown_refl _ _ | exact grown_trans hg (World.grownBy_alloc _ _ none)⟩
      case round =>
        obtain ⟨rfl, hg⟩ := hrel
        go_wp2
        go_loopg [11, 12, 13] 0 (fun _ i _ _ wr => i = .int .i64 0 ∧ w.grownBy wr none)
        case atStart => exact ⟨rfl, by first | exact hg | exact grown_refl _ _ | exact grown_trans hg (World.grownBy_alloc _ _ none)⟩
        case round =>
          obtain ⟨rfl, hg⟩ := hrel
          go_wp2
          go_loopg [14, 15] 0 (fun _ i _ wr => i = .int .i64 0 ∧ w.grownBy wr none)
          case atStart => exact ⟨rfl, by first | exact hg | exact grown_refl _ _ | exact grown_trans hg (World.grownBy_alloc _ _ none)⟩
          case round =>
            obtain ⟨rfl, hg⟩ := hrel
            go_wp2
            go_ret
            exact ⟨rfl, hg⟩

set_option maxRecDepth 100000 in
set_option maxHeartbeats 1000000 in
theorem nil_71 (w : World) : Calls Tryz.prog 95 #[.slice none 0 0] w fun e w' => e = .returned (.bool true) ∧ w.grownBy w' none := by
  have hmk := fun w => make_none 97 148 Tryz.underlying97 (by kernel_rfl) w
  go_enter Tryz.func95, Tryz.ntmps95
  go_wp2
  go_loopg [3, 4] 0 (fun _ i _ wr => i = .int .i64 0 ∧ w.grownBy wr none)
  case atStart => exact ⟨rfl, by first | exact hg | exact grown_refl _ _ | exact grown_trans hg (World.grownBy_alloc _ _ none)⟩
  case round =>
    obtain ⟨rfl, hg⟩ := hrel
    go_wp2
    go_loopg [6, 7, 8] 0 (fun _ i _ _ wr => i = .int .i64 0 ∧ w.grownBy wr none)
    case atStart => exact ⟨rfl, by first | exact hg | exact grown_refl _ _ | exact grown_trans hg (World.grownBy_alloc _ _ none)⟩
    case round =>
      obtain ⟨rfl, hg⟩ := hrel
      go_wp2
      go_loopg [9, 10] 0 (fun _ i _ wr => i = .int .i64 0 ∧ w.grownBy wr none)
      case atStart => exact ⟨rfl, by first | exact hg | exact grown_refl _ _ | exact grown_trans hg (World.grownBy_alloc _ _ none)⟩
      case round =>
        obtain ⟨rfl, hg⟩ := hrel
        go_wp2
        go_loopg [11, 12, 13] 0 (fun _ i _ _ wr => i = .int .i64 0 ∧ w.grownBy wr none)
        case atStart => exact ⟨rfl, by first | exact hg | exact grown_refl _ _ | exact grown_trans hg (World.grownBy_alloc _ _ none)⟩
        case round =>
          obtain ⟨rfl, hg⟩ := hrel
          go_wp2
          go_loopg [14, 15] 0 (fun _ i _ wr => i = .int .i64 0 ∧ w.grownBy wr none)
          case atStart => exact ⟨rfl, by first | exact hg | exact grown_refl _ _ | exact grown_trans hg (World.grownBy_alloc _ _ none)⟩
          case round =>
            obtain ⟨rfl, hg⟩ := hrel
            go_wp2
            go_ret
            exact ⟨rfl, hg⟩

set_option maxRecDepth 100000 in
set_option maxHeartbeats 1000000 in
theorem nil_73 (w : World) : Calls Tryz.prog 97 #[.slice none 0 0] w fun e w' => e = .returned (.bool true) ∧ w.grownBy w' none := by
  have hmk := fun w => make_none 98 150 Tryz.underlying98 (by kernel_rfl) w
  go_enter Tryz.func97, Tryz.ntmps97
  go_wp2
  go_loopg [3, 4] 0 (fun _ i _ wr => i = .int .i64 0 ∧ w.grownBy wr none)
  case atStart => exact ⟨rfl, by first | exact hg | exact grown_refl _ _ | exact grown_trans hg (World.grownBy_alloc _ _ none)⟩
  case round =>
    obtain ⟨rfl, hg⟩ := hrel
    go_wp2
    go_loopg [6, 7, 8] 0 (fun _ i _ _ wr => i = .int .i64 0 ∧ w.grownBy wr none)
    case atStart => exact ⟨rfl, by first | exact hg | exact grown_refl _ _ | exact grown_trans hg (World.grownBy_alloc _ _ none)⟩
    case round =>
      obtain ⟨rfl, hg⟩ := hrel
      go_wp2
      go_loopg [9, 10] 0 (fun _ i _ wr => i = .int .i64 0 ∧ w.grownBy wr none)
      case atStart => exact ⟨rfl, by first | exact hg | exact grown_refl _ _ | exact grown_trans hg (World.grownBy_alloc _ _ none)⟩
      case round =>
        obtain ⟨rfl, hg⟩ := hrel
        go_wp2
        go_loopg [11, 12, 13] 0 (fun _ i _ _ wr => i = .int .i64 0 ∧ w.grownBy wr none)
        case atStart => exact ⟨rfl, by first | exact hg | exact grown_refl _ _ | exact grown_trans hg (World.grownBy_alloc _ _ none)⟩
        case round =>
          obtain ⟨rfl, hg⟩ := hrel
          go_wp2
          go_loopg [14, 15] 0 (fun _ i _ wr => i = .int .i64 0 ∧ w.grownBy wr none)
          case atStart => exact ⟨rfl, by first | exact hg | exact grown_refl _ _ | exact grown_trans hg (World.grownBy_alloc _ _ none)⟩
          case round =>
            obtain ⟨rfl, hg⟩ := hrel
            go_wp2
            go_ret
            exact ⟨rfl, hg⟩

set_option maxRecDepth 100000 in
set_option maxHeartbeats 1000000 in
theorem nil_74 (w : World) : Calls Tryz.prog 98 #[.slice none 0 0] w fun e w' => e = .returned (.bool true) ∧ w.grownBy w' none := by
  have hmk := fun w => make_none 99 33 Tryz.underlying99 (by kernel_rfl) w
  go_enter Tryz.func98, Tryz.ntmps98
  go_wp2
  go_loopg [3, 4] 0 (fun _ i _ wr => i = .int .i64 0 ∧ w.grownBy wr none)
  case atStart => exact ⟨rfl, by first | exact hg | exact grown_refl _ _ | exact grown_trans hg (World.grownBy_alloc _ _ none)⟩
  case round =>
    obtain ⟨rfl, hg⟩ := hrel
    go_wp2
    go_loopg [6, 7, 8] 0 (fun _ i _ _ wr => i = .int .i64 0 ∧ w.grownBy wr none)
    case atStart => exact ⟨rfl, by first | exact hg | exact grown_refl _ _ | exact grown_trans hg (World.grownBy_alloc _ _ none)⟩
    case round =>
      obtain ⟨rfl, hg⟩ := hrel
      go_wp2
      go_loopg [9, 10] 0 (fun _ i _ wr => i = .int .i64 0 ∧ w.grownBy wr none)
      case atStart => exact ⟨rfl, by first | exact hg | exact grown_refl _ _ | exact grown_trans hg (World.grownBy_alloc _ _ none)⟩
      case round =>
        obtain ⟨rfl, hg⟩ := hrel
        go_wp2
        go_loopg [11, 12, 13] 0 (fun _ i _ _ wr => i = .int .i64 0 ∧ w.grownBy wr none)
        case atStart => exact ⟨rfl, by first | exact hg | exact grown_refl _ _ | exact grown_trans hg (World.grownBy_alloc _ _ none)⟩
        case round =>
          obtain ⟨rfl, hg⟩ := hrel
          go_wp2
          go_loopg [14, 15] 0 (fun _ i _ wr => i = .int .i64 0 ∧ w.grownBy wr none)
          case atStart => exact ⟨rfl, by first | exact hg | exact grown_refl _ _ | exact grown_trans hg (World.grownBy_alloc _ _ none)⟩
          case round =>
            obtain ⟨rfl, hg⟩ := hrel
            go_wp2
            go_ret
            exact ⟨rfl, hg⟩

set_option maxRecDepth 100000 in
set_option maxHeartbeats 1000000 in
theorem nil_75 (w : World) : Calls Tryz.prog 99 #[.slice none 0 0] w fun e w' => e = .returned (.bool true) ∧ w.grownBy w' none := by
  have hmk := fun w => make_none 100 152 Tryz.underlying100 (by kernel_rfl) w
  go_enter Tryz.func99, Tryz.ntmps99
  go_wp2
  go_loopg [3, 4] 0 (fun _ i _ wr => i = .int .i64 0 ∧ w.grownBy wr none)
  case atStart => exact ⟨rfl, by first | exact hg | exact grown_refl _ _ | exact grown_trans hg (World.grownBy_alloc _ _ none)⟩
  case round =>
    obtain ⟨rfl, hg⟩ := hrel
    go_wp2
    go_loopg [6, 7, 8] 0 (fun _ i _ _ wr => i = .int .i64 0 ∧ w.grownBy wr none)
    case atStart => exact ⟨rfl, by first | exact hg | exact grown_refl _ _ | exact grown_trans hg (World.grownBy_alloc _ _ none)⟩
    case round =>
      obtain ⟨rfl, hg⟩ := hrel
      go_wp2
      go_loopg [9, 10] 0 (fun _ i _ wr => i = .int .i64 0 ∧ w.grownBy wr none)
      case atStart => exact ⟨rfl, by first | exact hg | exact grown_refl _ _ | exact grown_trans hg (World.grownBy_alloc _ _ none)⟩
      case round =>
        obtain ⟨rfl, hg⟩ := hrel
        go_wp2
        go_loopg [11, 12, 13] 0 (fun _ i _ _ wr => i = .int .i64 0 ∧ w.grownBy wr none)
        case atStart => exact ⟨rfl, by first | exact hg | exact grown_refl _ _ | exact grown_trans hg (World.grownBy_alloc _ _ none)⟩
        case round =>
          obtain ⟨rfl, hg⟩ := hrel
          go_wp2
          go_loopg [14, 15] 0 (fun _ i _ wr => i = .int .i64 0 ∧ w.grownBy wr none)
          case atStart => exact ⟨rfl, by first | exact hg | exact grown_refl _ _ | exact grown_trans hg (World.grownBy_alloc _ _ none)⟩
          case round =>
            obtain ⟨rfl, hg⟩ := hrel
            go_wp2
            go_ret
            exact ⟨rfl, hg⟩

set_option maxRecDepth 100000 in
set_option maxHeartbeats 1000000 in
theorem nil_76 (w : World) : Calls Tryz.prog 100 #[.slice none 0 0] w fun e w' => e = .returned (.bool true) ∧ w.grownBy w' none := by
  have hmk := fun w => make_none 101 156 Tryz.underlying101 (by kernel_rfl) w
  go_enter Tryz.func100, Tryz.ntmps100
  go_wp2
  go_loopg [3, 4] 0 (fun _ i _ wr => i = .int .i64 0 ∧ w.grownBy wr none)
  case atStart => exact ⟨rfl, by first | exact hg | exact grown_refl _ _ | exact grown_trans hg (World.grownBy_alloc _ _ none)⟩
  case round =>
    obtain ⟨rfl, hg⟩ := hrel
    go_wp2
    go_loopg [6, 7, 8] 0 (fun _ i _ _ wr => i = .int .i64 0 ∧ w.grownBy wr none)
    case atStart => exact ⟨rfl, by first | exact hg | exact grown_refl _ _ | exact grown_trans hg (World.grownBy_alloc _ _ none)⟩
    case round =>
      obtain ⟨rfl, hg⟩ := hrel
      go_wp2
      go_loopg [9, 10] 0 (fun _ i _ wr => i = .int .i64 0 ∧ w.grownBy wr none)
      case atStart => exact ⟨rfl, by first | exact hg | exact grown_refl _ _ | exact grown_trans hg (World.grownBy_alloc _ _ none)⟩
      case round =>
        obtain ⟨rfl, hg⟩ := hrel
        go_wp2
        go_loopg [11, 12, 13] 0 (fun _ i _ _ wr => i = .int .i64 0 ∧ w.grownBy wr none)
        case atStart => exact ⟨rfl, by first | exact hg | exact grown_refl _ _ | exact grown_trans hg (World.grownBy_alloc _ _ none)⟩
        case round =>
          obtain ⟨rfl, hg⟩ := hrel
          go_wp2
          go_loopg [14, 15] 0 (fun _ i _ wr => i = .int .i64 0 ∧ w.grownBy wr none)
          case atStart => exact ⟨rfl, by first | exact hg | exact grown_refl _ _ | exact grown_trans hg (World.grownBy_alloc _ _ none)⟩
          case round =>
            obtain ⟨rfl, hg⟩ := hrel
            go_wp2
            go_ret
            exact ⟨rfl, hg⟩

set_option maxRecDepth 100000 in
set_option maxHeartbeats 1000000 in
theorem nil_77 (w : World) : Calls Tryz.prog 101 #[.slice none 0 0] w fun e w' => e = .returned (.bool true) ∧ w.grownBy w' none := by
  have hmk := fun w => make_none 102 161 Tryz.underlying102 (by kernel_rfl) w
  go_enter Tryz.func101, Tryz.ntmps101
  go_wp2
  go_loopg [3, 4] 0 (fun _ i _ wr => i = .int .i64 0 ∧ w.grownBy wr none)
  case atStart => exact ⟨rfl, by first | exact hg | exact grown_refl _ _ | exact grown_trans hg (World.grownBy_alloc _ _ none)⟩
  case round =>
    obtain ⟨rfl, hg⟩ := hrel
    go_wp2
    go_loopg [6, 7, 8] 0 (fun _ i _ _ wr => i = .int .i64 0 ∧ w.grownBy wr none)
    case atStart => exact ⟨rfl, by first | exact hg | exact grown_refl _ _ | exact grown_trans hg (World.grownBy_alloc _ _ none)⟩
    case round =>
      obtain ⟨rfl, hg⟩ := hrel
      go_wp2
      go_loopg [9, 10] 0 (fun _ i _ wr => i = .int .i64 0 ∧ w.grownBy wr none)
      case atStart => exact ⟨rfl, by first | exact hg | exact grown_refl _ _ | exact grown_trans hg (World.grownBy_alloc _ _ none)⟩
      case round =>
        obtain ⟨rfl, hg⟩ := hrel
        go_wp2
        go_loopg [11, 12, 13] 0 (fun _ i _ _ wr => i = .int .i64 0 ∧ w.grownBy wr none)
        case atStart => exact ⟨rfl, by first | exact hg | exact grown_refl _ _ | exact grown_trans hg (World.grownBy_alloc _ _ none)⟩
        case round =>
          obtain ⟨rfl, hg⟩ := hrel
          go_wp2
          go_loopg [14, 15] 0 (fun _ i _ wr => i = .int .i64 0 ∧ w.grownBy wr none)
          case atStart => exact ⟨rfl, by first | exact hg | exact grown_refl _ _ | exact grown_trans hg (World.grownBy_alloc _ _ none)⟩
          case round =>
            obtain ⟨rfl, hg⟩ := hrel
            go_wp2
            go_ret
            exact ⟨rfl, hg⟩

set_option maxRecDepth 100000 in
set_option maxHeartbeats 1000000 in
theorem nil_78 (w : World) : Calls Tryz.prog 102 #[.slice none 0 0] w fun e w' => e = .returned (.bool true) ∧ w.grownBy w' none := by
  have hmk := fun w => make_none 103 166 Tryz.underlying103 (by kernel_rfl) w
  go_enter Tryz.func102, Tryz.ntmps102
  go_wp2
  go_loopg [3, 4] 0 (fun _ i _ wr => i = .int .i64 0 ∧ w.grownBy wr none)
  case atStart => exact ⟨rfl, by first | exact hg | exact grown_refl _ _ | exact grown_trans hg (World.grownBy_alloc _ _ none)⟩
  case round =>
    obtain ⟨rfl, hg⟩ := hrel
    go_wp2
    go_loopg [6, 7, 8] 0 (fun _ i _ _ wr => i = .int .i64 0 ∧ w.grownBy wr none)
    case atStart => exact ⟨rfl, by first | exact hg | exact grown_refl _ _ | exact grown_trans hg (World.grownBy_alloc _ _ none)⟩
    case round =>
      obtain ⟨rfl, hg⟩ := hrel
      go_wp2
      go_loopg [9, 10] 0 (fun _ i _ wr => i = .int .i64 0 ∧ w.grownBy wr none)
      case atStart => exact ⟨rfl, by first | exact hg | exact grown_refl _ _ | exact grown_trans hg (World.grownBy_alloc _ _ none)⟩
      case round =>
        obtain ⟨rfl, hg⟩ := hrel
        go_wp2
        go_loopg [11, 12, 13] 0 (fun _ i _ _ wr => i = .int .i64 0 ∧ w.grownBy wr none)
        case atStart => exact ⟨rfl, by first | exact hg | exact grown_refl _ _ | exact grown_trans hg (World.grownBy_alloc _ _ none)⟩
        case round =>
          obtain ⟨rfl, hg⟩ := hrel
          go_wp2
          go_loopg [14, 15] 0 (fun _ i _ wr => i = .int .i64 0 ∧ w.grownBy wr none)
          case atStart => exact ⟨rfl, by first | exact hg | exact grown_refl _ _ | exact grown_trans hg (World.grownBy_alloc _ _ none)⟩
          case round =>
            obtain ⟨rfl, hg⟩ := hrel
            go_wp2
            go_ret
            exact ⟨rfl, hg⟩

set_option maxRecDepth 100000 in
set_option maxHeartbeats 1000000 in
theorem nil_79 (w : World) : Calls Tryz.prog 103 #[.slice none 0 0] w fun e w' => e = .returned (.bool true) ∧ w.grownBy w' none := by
  have hmk := fun w => make_none 104 172 Tryz.underlying104 (by kernel_rfl) w
  go_enter Tryz.func103, Tryz.ntmps103
  go_wp2
  go_loopg [3, 4] 0 (fun _ i _ wr => i = .int .i64 0 ∧ w.grownBy wr none)
  case atStart => exact ⟨rfl, by first | exact hg | exact grown_refl _ _ | exact grown_trans hg (World.grownBy_alloc _ _ none)⟩
  case round =>
    obtain ⟨rfl, hg⟩ := hrel
    go_wp2
    go_loopg [6, 7, 8] 0 (fun _ i _ _ wr => i = .int .i64 0 ∧ w.grownBy wr none)
    case atStart => exact ⟨rfl, by first | exact hg | exact grown_refl _ _ | exact grown_trans hg (World.grownBy_alloc _ _ none)⟩
    case round =>
      obtain ⟨rfl, hg⟩ := hrel
      go_wp2
      go_loopg [9, 10] 0 (fun _ i _ wr => i = .int .i64 0 ∧ w.grownBy wr none)
      case atStart => exact ⟨rfl, by first | exact hg | exact grown_refl _ _ | exact grown_trans hg (World.grownBy_alloc _ _ none)⟩
      case round =>
        obtain ⟨rfl, hg⟩ := hrel
        go_wp2
        go_loopg [11, 12, 13] 0 (fun _ i _ _ wr => i = .int .i64 0 ∧ w.grownBy wr none)
        case atStart => exact ⟨rfl, by first | exact hg | exact grown_refl _ _ | exact grown_trans hg (World.grownBy_alloc _ _ none)⟩
        case round =>
          obtain ⟨rfl, hg⟩ := hrel
          go_wp2
          go_loopg [14, 15] 0 (fun _ i _ wr => i = .int .i64 0 ∧ w.grownBy wr none)
          case atStart => exact ⟨rfl, by first | exact hg | exact grown_refl _ _ | exact grown_trans hg (World.grownBy_alloc _ _ none)⟩
          case round =>
            obtain ⟨rfl, hg⟩ := hrel
            go_wp2
            go_ret
            exact ⟨rfl, hg⟩

set_option maxRecDepth 100000 in
set_option maxHeartbeats 1000000 in
theorem nil_80 (w : World) : Calls Tryz.prog 104 #[.slice none 0 0] w fun e w' => e = .returned (.bool true) ∧ w.grownBy w' none := by
  have hmk := fun w => make_none 105 176 Tryz.underlying105 (by kernel_rfl) w
  go_enter Tryz.func104, Tryz.ntmps104
  go_wp2
  go_loopg [3, 4] 0 (fun _ i _ wr => i = .int .i64 0 ∧ w.grownBy wr none)
  case atStart => exact ⟨rfl, by first | exact hg | exact grown_refl _ _ | exact grown_trans hg (World.grownBy_alloc _ _ none)⟩
  case round =>
    obtain ⟨rfl, hg⟩ := hrel
    go_wp2
    go_loopg [6, 7, 8] 0 (fun _ i _ _ wr => i = .int .i64 0 ∧ w.grownBy wr none)
    case atStart => exact ⟨rfl, by first | exact hg | exact grown_refl _ _ | exact grown_trans hg (World.grownBy_alloc _ _ none)⟩
    case round =>
      obtain ⟨rfl, hg⟩ := hrel
      go_wp2
      go_loopg [9, 10] 0 (fun _ i _ wr => i = .int .i64 0 ∧ w.grownBy wr none)
      case atStart => exact ⟨rfl, by first | exact hg | exact grown_refl _ _ | exact grown_trans hg (World.grownBy_alloc _ _ none)⟩
      case round =>
        obtain ⟨rfl, hg⟩ := hrel
        go_wp2
        go_loopg [11, 12, 13] 0 (fun _ i _ _ wr => i = .int .i64 0 ∧ w.grownBy wr none)
        case atStart => exact ⟨rfl, by first | exact hg | exact grown_refl _ _ | exact grown_trans hg (World.grownBy_alloc _ _ none)⟩
        case round =>
          obtain ⟨rfl, hg⟩ := hrel
          go_wp2
          go_loopg [14, 15] 0 (fun _ i _ wr => i = .int .i64 0 ∧ w.grownBy wr none)
          case atStart => exact ⟨rfl, by first | exact hg | exact grown_refl _ _ | exact grown_trans hg (World.grownBy_alloc _ _ none)⟩
          case round =>
            obtain ⟨rfl, hg⟩ := hrel
            go_wp2
            go_ret
            exact ⟨rfl, hg⟩

set_option maxRecDepth 100000 in
set_option maxHeartbeats 1000000 in
theorem nil_81 (w : World) : Calls Tryz.prog 105 #[.slice none 0 0] w fun e w' => e = .returned (.bool true) ∧ w.grownBy w' none := by
  have hmk := fun w => make_none 106 181 Tryz.underlying106 (by kernel_rfl) w
  go_enter Tryz.func105, Tryz.ntmps105
  go_wp2
  go_loopg [3, 4] 0 (fun _ i _ wr => i = .int .i64 0 ∧ w.grownBy wr none)
  case atStart => exact ⟨rfl, by first | exact hg | exact grown_refl _ _ | exact grown_trans hg (World.grownBy_alloc _ _ none)⟩
  case round =>
    obtain ⟨rfl, hg⟩ := hrel
    go_wp2
    go_loopg [6, 7, 8] 0 (fun _ i _ _ wr => i = .int .i64 0 ∧ w.grownBy wr none)
    case atStart => exact ⟨rfl, by first | exact hg | exact grown_refl _ _ | exact grown_trans hg (World.grownBy_alloc _ _ none)⟩
    case round =>
      obtain ⟨rfl, hg⟩ := hrel
      go_wp2
      go_loopg [9, 10] 0 (fun _ i _ wr => i = .int .i64 0 ∧ w.grownBy wr none)
      case atStart => exact ⟨rfl, by first | exact hg | exact grown_refl _ _ | exact grown_trans hg (World.grownBy_alloc _ _ none)⟩
      case round =>
        obtain ⟨rfl, hg⟩ := hrel
        go_wp2
        go_loopg [11, 12, 13] 0 (fun _ i _ _ wr => i = .int .i64 0 ∧ w.grownBy wr none)
        case atStart => exact ⟨rfl, by first | exact hg | exact grown_refl _ _ | exact grown_trans hg (World.grownBy_alloc _ _ none)⟩
        case round =>
          obtain ⟨rfl, hg⟩ := hrel
          go_wp2
          go_loopg [14, 15] 0 (fun _ i _ wr => i = .int .i64 0 ∧ w.grownBy wr none)
          case atStart => exact ⟨rfl, by first | exact hg | exact grown_refl _ _ | exact grown_trans hg (World.grownBy_alloc _ _ none)⟩
          case round =>
            obtain ⟨rfl, hg⟩ := hrel
            go_wp2
            go_ret
            exact ⟨rfl, hg⟩

set_option maxRecDepth 100000 in
set_option maxHeartbeats 1000000 in
theorem nil_82 (w : World) : Calls Tryz.prog 106 #[.slice none 0 0] w fun e w' => e = .returned (.bool true) ∧ w.grownBy w' none := by
  have hmk := fun w => make_none 107 185 Tryz.underlying107 (by kernel_rfl) w
  go_enter Tryz.func106, Tryz.ntmps106
  go_wp2
  go_loopg [3, 4] 0 (fun _ i _ wr => i = .int .i64 0 ∧ w.grownBy wr none)
  case atStart => exact ⟨rfl, by first | exact hg | exact grown_refl _ _ | exact grown_trans hg (World.grownBy_alloc _ _ none)⟩
  case round =>
    obtain ⟨rfl, hg⟩ := hrel
    go_wp2
    go_loopg [6, 7, 8] 0 (fun _ i _ _ wr => i = .int .i64 0 ∧ w.grownBy wr none)
    case atStart => exact ⟨rfl, by first | exact hg | exact grown_refl _ _ | exact grown_trans hg (World.grownBy_alloc _ _ none)⟩
    case round =>
      obtain ⟨rfl, hg⟩ := hrel
      go_wp2
      go_loopg [9, 10] 0 (fun _ i _ wr => i = .int .i64 0 ∧ w.grownBy wr none)
      case atStart => exact ⟨rfl, by first | exact hg | exact grown_refl _ _ | exact grown_trans hg (World.grownBy_alloc _ _ none)⟩
      case round =>
        obtain ⟨rfl, hg⟩ := hrel
        go_wp2
        go_loopg [11, 12, 13] 0 (fun _ i _ _ wr => i = .int .i64 0 ∧ w.grownBy wr none)
        case atStart => exact ⟨rfl, by first | exact hg | exact grown_refl _ _ | exact grown_trans hg (World.grownBy_alloc _ _ none)⟩
        case round =>
          obtain ⟨rfl, hg⟩ := hrel
          go_wp2
          go_loopg [14, 15] 0 (fun _ i _ wr => i = .int .i64 0 ∧ w.grownBy wr none)
          case atStart => exact ⟨rfl, by first | exact hg | exact grown_refl _ _ | exact grown_trans hg (World.grownBy_alloc _ _ none)⟩
          case round =>
            obtain ⟨rfl, hg⟩ := hrel
            go_wp2
            go_ret
            exact ⟨rfl, hg⟩

set_option maxRecDepth 100000 in
set_option maxHeartbeats 1000000 in
theorem nil_83 (w : World) : Calls Tryz.prog 107 #[.slice none 0 0] w fun e w' => e = .returned (.bool true) ∧ w.grownBy w' none := by
  have hmk := fun w => make_none 108 190 Tryz.underlying108 (by kernel_rfl) w
  go_enter Tryz.func107, Tryz.ntmps107
  go_wp2
  go_loopg [3, 4] 0 (fun _ i _ wr => i = .int .i64 0 ∧ w.grownBy wr none)
  case atStart => exact ⟨rfl, by first | exact hg | exact grown_refl _ _ | exact grown_trans hg (World.grownBy_alloc _ _ none)⟩
  case round =>
    obtain ⟨rfl, hg⟩ := hrel
    go_wp2
    go_loopg [6, 7, 8] 0 (fun _ i _ _ wr => i = .int .i64 0 ∧ w.grownBy wr none)
    case atStart => exact ⟨rfl, by first | exact hg | exact grown_refl _ _ | exact grown_trans hg (World.grownBy_alloc _ _ none)⟩
    case round =>
      obtain ⟨rfl, hg⟩ := hrel
      go_wp2
      go_loopg [9, 10] 0 (fun _ i _ wr => i = .int .i64 0 ∧ w.grownBy wr none)
      case atStart => exact ⟨rfl, by first | exact hg | exact grown_refl _ _ | exact grown_trans hg (World.grownBy_alloc _ _ none)⟩
      case round =>
        obtain ⟨rfl, hg⟩ := hrel
        go_wp2
        go_loopg [11, 12, 13] 0 (fun _ i _ _ wr => i = .int .i64 0 ∧ w.grownBy wr none)
        case atStart => exact ⟨rfl, by first | exact hg | exact grown_refl _ _ | exact grown_trans hg (World.grownBy_alloc _ _ none)⟩
        case round =>
          obtain ⟨rfl, hg⟩ := hrel
          go_wp2
          go_loopg [14, 15] 0 (fun _ i _ wr => i = .int .i64 0 ∧ w.grownBy wr none)
          case atStart => exact ⟨rfl, by first | exact hg | exact grown_refl _ _ | exact grown_trans hg (World.grownBy_alloc _ _ none)⟩
          case round =>
            obtain ⟨rfl, hg⟩ := hrel
            go_wp2
            go_ret
            exact ⟨rfl, hg⟩

set_option maxRecDepth 100000 in
set_option maxHeartbeats 1000000 in
theorem nil_84 (w : World) : Calls Tryz.prog 108 #[.slice none 0 0] w fun e w' => e = .returned (.bool true) ∧ w.grownBy w' none := by
  have hmk := fun w => make_none 109 194 Tryz.underlying109 (by kernel_rfl) w
  go_enter Tryz.func108, Tryz.ntmps108
  go_wp2
  go_loopg [3, 4] 0 (fun _ i _ wr => i = .int .i64 0 ∧ w.grownBy wr none)
  case atStart => exact ⟨rfl, by first | exact hg | exact grown_refl _ _ | exact grown_trans hg (World.grownBy_alloc _ _ none)⟩
  case round =>
    obtain ⟨rfl, hg⟩ := hrel
    go_wp2
    go_loopg [6, 7, 8] 0 (fun _ i _ _ wr => i = .int .i64 0 ∧ w.grownBy wr none)
    case atStart => exact ⟨rfl, by first | exact hg | exact grown_refl _ _ | exact grown_trans hg (World.grownBy_alloc _ _ none)⟩
    case round =>
      obtain ⟨rfl, hg⟩ := hrel
      go_wp2
      go_loopg [9, 10] 0 (fun _ i _ wr => i = .int .i64 0 ∧ w.grownBy wr none)
      case atStart => exact ⟨rfl, by first | exact hg | exact grown_refl _ _ | exact grown_trans hg (World.grownBy_alloc _ _ none)⟩
      case round =>
        obtain ⟨rfl, hg⟩ := hrel
        go_wp2
        go_loopg [11, 12, 13] 0 (fun _ i _ _ wr => i = .int .i64 0 ∧ w.grownBy wr none)
        case atStart => exact ⟨rfl, by first | exact hg | exact grown_refl _ _ | exact grown_trans hg (World.grownBy_alloc _ _ none)⟩
        case round =>
          obtain ⟨rfl, hg⟩ := hrel
          go_wp2
          go_loopg [14, 15] 0 (fun _ i _ wr => i = .int .i64 0 ∧ w.grownBy wr none)
          case atStart => exact ⟨rfl, by first | exact hg | exact grown_refl _ _ | exact grown_trans hg (World.grownBy_alloc _ _ none)⟩
          case round =>
            obtain ⟨rfl, hg⟩ := hrel
            go_wp2
            go_ret
            exact ⟨rfl, hg⟩

set_option maxRecDepth 100000 in
set_option maxHeartbeats 1000000 in
theorem nil_85 (w : World) : Calls Tryz.prog 109 #[.slice none 0 0] w fun e w' => e = .returned (.bool true) ∧ w.grownBy w' none := by
  have hmk := fun w => make_none 110 198 Tryz.underlying110 (by kernel_rfl) w
  go_enter Tryz.func109, Tryz.ntmps109
  go_wp2
  go_loopg [3, 4] 0 (fun _ i _ wr => i = .int .i64 0 ∧ w.grownBy wr none)
  case atStart => exact ⟨rfl, by first | exact hg | exact grown_refl _ _ | exact grown_trans hg (World.grownBy_alloc _ _ none)⟩
  case round =>
    obtain ⟨rfl, hg⟩ := hrel
    go_wp2
    go_loopg [6, 7, 8] 0 (fun _ i _ _ wr => i = .int .i64 0 ∧ w.grownBy wr none)
    case atStart => exact ⟨rfl, by first | exact hg | exact grown_refl _ _ | exact grown_trans hg (World.grownBy_alloc _ _ none)⟩
    case round =>
      obtain ⟨rfl, hg⟩ := hrel
      go_wp2
      go_loopg [9, 10] 0 (fun _ i _ wr => i = .int .i64 0 ∧ w.grownBy wr none)
      case atStart => exact ⟨rfl, by first | exact hg | exact grown_refl _ _ | exact grown_trans hg (World.grownBy_alloc _ _ none)⟩
      case round =>
        obtain ⟨rfl, hg⟩ := hrel
        go_wp2
        go_loopg [11, 12, 13] 0 (fun _ i _ _ wr => i = .int .i64 0 ∧ w.grownBy wr none)
        case atStart => exact ⟨rfl, by first | exact hg | exact grown_refl _ _ | exact grown_trans hg (World.grownBy_alloc _ _ none)⟩
        case round =>
          obtain ⟨rfl, hg⟩ := hrel
          go_wp2
          go_loopg [14, 15] 0 (fun _ i _ wr => i = .int .i64 0 ∧ w.grownBy wr none)
          case atStart => exact ⟨rfl, by first | exact hg | exact grown_refl _ _ | exact grown_trans hg (World.grownBy_alloc _ _ none)⟩
          case round =>
            obtain ⟨rfl, hg⟩ := hrel
            go_wp2
            go_ret
            exact ⟨rfl, hg⟩

set_option maxRecDepth 100000 in
set_option maxHeartbeats 1000000 in
theorem nil_86 (w : World) : Calls Tryz.prog 110 #[.slice none 0 0] w fun e w' => e = .returned (.bool true) ∧ w.grownBy w' none := by
  have hmk := fun w => make_none 111 202 Tryz.underlying111 (by kernel_rfl) w
  go_enter Tryz.func110, Tryz.ntmps110
  go_wp2
  go_loopg [3, 4] 0 (fun _ i _ wr => i = .int .i64 0 ∧ w.grownBy wr none)
  case atStart => exact ⟨rfl, by first | exact hg | exact grown_refl _ _ | exact grown_trans hg (World.grownBy_alloc _ _ none)⟩
  case round =>
    obtain ⟨rfl, hg⟩ := hrel
    go_wp2
    go_loopg [6, 7, 8] 0 (fun _ i _ _ wr => i = .int .i64 0 ∧ w.grownBy wr none)
    case atStart => exact ⟨rfl, by first | exact hg | exact grown_refl _ _ | exact grown_trans hg (World.grownBy_alloc _ _ none)⟩
    case round =>
      obtain ⟨rfl, hg⟩ := hrel
      go_wp2
      go_loopg [9, 10] 0 (fun _ i _ wr => i = .int .i64 0 ∧ w.grownBy wr none)
      case atStart => exact ⟨rfl, by first | exact hg | exact grown_refl _ _ | exact grown_trans hg (World.grownBy_alloc _ _ none)⟩
      case round =>
        obtain ⟨rfl, hg⟩ := hrel
        go_wp2
        go_loopg [11, 12, 13] 0 (fun _ i _ _ wr => i = .int .i64 0 ∧ w.grownBy wr none)
        case atStart => exact ⟨rfl, by first | exact hg | exact grown_refl _ _ | exact grown_trans hg (World.grownBy_alloc _ _ none)⟩
        case round =>
          obtain ⟨rfl, hg⟩ := hrel
          go_wp2
          go_loopg [14, 15] 0 (fun _ i _ wr => i = .int .i64 0 ∧ w.grownBy wr none)
          case atStart => exact ⟨rfl, by first | exact hg | exact grown_refl _ _ | exact grown_trans hg (World.grownBy_alloc _ _ none)⟩
          case round =>
            obtain ⟨rfl, hg⟩ := hrel
            go_wp2
            go_ret
            exact ⟨rfl, hg⟩
end Go.Proofs.YtaopcidkgcekdaaGreat.Ap
