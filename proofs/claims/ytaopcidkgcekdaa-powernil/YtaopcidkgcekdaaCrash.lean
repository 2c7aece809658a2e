/- The contracts of Sync and Crash. -/
import Derived.Test.YtaopcidkgcekdaaSettle
namespace Go.Proofs.Ytaopcidkgcekdaa
open Go.RowKit Ap
attribute [local go_sem ↓] Go.wp_at_zero Go.wp_at_succ

/-- Fates (their kind, their place) lie there. -/
def FatesAt (w : World) (fo : Option Addr) (F : List (Int × Int)) : Prop := ∀ j p, F[j]? = some p → ∃ b o, fo = some ⟨b, o, none⟩ ∧ w.cell? ⟨b, o + j * 2, none⟩ = some (.int .i64 p.1) ∧ w.cell? ⟨b, o + j * 2 + 1, none⟩ = some (.int .i64 p.2)
theorem FatesAt.kept {w w' : World} {fo : Option Addr} {F : List (Int × Int)} {row : Option Nat} (h : FatesAt w fo F) (hg : w.grownBy w' row) (hr : ∀ a, fo = some a → some a.block ≠ row) : FatesAt w' fo F := by
  intro j p hj
  obtain ⟨b, o, e, h1, h2⟩ := h j p hj
  have hb : some b ≠ row := hr ⟨b, o, none⟩ e
  exact ⟨b, o, e, hg.cell h1 hb, hg.cell h2 hb⟩
theorem FatesAt.grown {w w' : World} {fo : Option Addr} {F : List (Int × Int)} (h : FatesAt w fo F) (hg : w.grownBy w' none) : FatesAt w' fo F := h.kept hg (by simp)
/-- The fate of the i-th. -/
def fateK (F : List (Int × Int)) (i : Nat) : Int := (F[i]?.getD (0, 0)).1
def fateA (F : List (Int × Int)) (i : Nat) : Int := (F[i]?.getD (0, 0)).2

set_option maxHeartbeats 1000000 in
theorem keep_any (i : Nat) (w : World) : Calls Try.prog 49 #[.int .i64 (i : Int)] w fun e w' => e = .returned (.agg #[.int .i64 1, .int .i64 0]) ∧ w.grownBy w' none := by
  go_enter Try.func49, Try.ntmps49
  go_wp2
  refine bodyPost_ret (results_cell_row rfl _ _ w.heap.size 66 #[.int .i64 1, .int .i64 0] (0, 0) _ rfl (heap_alloc_new w _) Try.underlying66 rfl (by kernel_rfl)) rfl ?_
  exact ⟨rfl, World.grownBy_alloc w _ none⟩
set_option maxHeartbeats 1000000 in
theorem fate_any (i m cap : Nat) (fo : Option Addr) (F : List (Int × Int)) (bx : Nat) (w : World) (hm : F.length = m) (hF : FatesAt w fo F) (hb : w.cell? ⟨bx, 0, none⟩ = some (.slice fo m cap)) :
    Calls Try.prog 42 #[.int .i64 (i : Int), .pointer (some ⟨bx, 0, none⟩)] w fun e w' => e = .returned (.agg #[.int .i64 (fateK F i), .int .i64 (fateA F i)]) ∧ w.grownBy w' none := by
  have hb1 : (w.alloc (.cells #[.int .i64 0, .int .i64 0] 66)).cell? ⟨bx, 0, none⟩ = some (.slice fo m cap) := (World.grownBy_alloc w _ none).cell hb (by simp)
  by_cases h : i < m
  · have hx : F[i]? = some (F[i]'(by omega)) := List.getElem?_eq_getElem (by omega)
    obtain ⟨b, o, rfl, c1, c2⟩ := hF i _ hx
    have e1 : fateK F i = (F[i]'(by omega)).1 := by simp [fateK, hx]
    have e2 : fateA F i = (F[i]'(by omega)).2 := by simp [fateA, hx]
    rw [e1, e2]
    have d1 : (w.alloc (.cells #[.int .i64 0, .int .i64 0] 66)).cell? ⟨b, o + i * 2, none⟩ = _ := (World.grownBy_alloc w _ none).cell c1 (by simp)
    have d2 : (w.alloc (.cells #[.int .i64 0, .int .i64 0] 66)).cell? ⟨b, o + i * 2 + 1, none⟩ = _ := (World.grownBy_alloc w _ none).cell c2 (by simp)
    have h1 : (i : Int) < (m : Int) := by omega
    have h2 : (0 : Int) ≤ (i : Int) := by omega
    generalize (F[i]'(by omega)).1 = K at *
    generalize (F[i]'(by omega)).2 = A at *
    clear c1 c2 hF hx hm e1 e2 h hb
    go_enter Try.func42, Try.ntmps42
    go_wp2
    refine bodyPost_ret (results_cell_row rfl _ _ w.heap.size 66 #[.int .i64 K, .int .i64 A] (0, 0) _ rfl (heap_alloc_new w _) Try.underlying66 rfl (by kernel_rfl)) rfl ?_
    exact ⟨rfl, World.grownBy_alloc w _ none⟩
  · have hx : F[i]? = none := List.getElem?_eq_none (by omega)
    have e1 : fateK F i = 0 := by simp [fateK, hx]
    have e2 : fateA F i = 0 := by simp [fateA, hx]
    rw [e1, e2]
    have h1 : ¬ (i : Int) < (m : Int) := by omega
    clear hF hx hm e1 e2 h hb
    go_enter Try.func42, Try.ntmps42
    go_wp2
    refine bodyPost_ret (results_cell_row rfl _ _ w.heap.size 66 #[.int .i64 0, .int .i64 0] (0, 0) _ rfl (heap_alloc_new w _) Try.underlying66 rfl (by kernel_rfl)) rfl ?_
    exact ⟨rfl, World.grownBy_alloc w _ none⟩

section
variable {w : World} {k : Dk} {n size : Nat} {D : List Nat} {W : List Wt}
/-- A disk on which nothing waits any more. -/
def Dk.calm (k : Dk) : Dk := ⟨k.d, k.db, .slice none 0 0, k.mb⟩
set_option maxHeartbeats 400000 in
theorem sync_none (p : Option Addr) (w : World) (h : NoDisk w p) : Calls Try.prog 38 #[.pointer p] w fun e w' => e = .returned (.int .i64 1) ∧ w' = w := by
  have H := hide (fun v => settle_none p v w h)
  clear h
  go_enter Try.func38, Try.ntmps38
  go_wp2_with fail
  refine (H.out _).mono ?_
  rintro e w' ⟨rfl, rfl⟩
  go_wp2
  go_ret
  exact ⟨rfl, rfl⟩
set_option maxHeartbeats 400000 in
theorem crash_none (p fo : Option Addr) (m cap : Nat) (w : World) (h : NoDisk w p) : Calls Try.prog 21 #[.pointer p, .slice fo m cap] w fun e w' => e = .returned (.int .i64 1) ∧ w.grownBy w' none := by
  have H := hide (fun v' => settle_none p v' (w.alloc (.cells #[.slice fo m cap] 23)) (h.grown (World.grownBy_alloc w _ none)))
  have hmf : ∀ (fn : Fn) (first cap : Array Value) (w : World), (Instr.makeFunc fn first cap).run Try.prog w = .ok (.func fn first cap) w := fun _ _ _ _ => rfl
  clear h
  go_enter Try.func21, Try.ntmps21
  go_wp2_with fail
  refine (H.out _).mono ?_
  rintro e w' ⟨rfl, rfl⟩
  go_wp2
  go_ret
  exact ⟨rfl, World.grownBy_alloc w _ none⟩
set_option maxHeartbeats 400000 in
theorem sync_any (h : DiskAt w k n size D W) : Calls Try.prog 38 #[.pointer (some ⟨k.d, 0, none⟩)] w fun e w' => e = .returned (.int .i64 0) ∧
    DiskAt w' k.calm n size (stl size (fun _ => size) D W W.length) [] ∧ Kept w w' (fun i => i = k.d ∨ i = k.db ∨ i = k.mb) := by
  have H := hide (settle57 (fun _ => 1) (fun _ => 0) h (fun i _ w' _ => keep_any i w'))
  clear h
  go_enter Try.func38, Try.ntmps38
  go_wp2_with fail
  refine H.out.mono ?_
  rintro e w' ⟨rfl, h1, h2⟩
  have HH := hide (And.intro h1 h2)
  clear h1 h2
  go_wp2
  go_ret
  exact ⟨rfl, HH.out⟩
set_option maxHeartbeats 400000 in
theorem crash_any (h : DiskAt w k n size D W) (fo : Option Addr) (m cap : Nat) (F : List (Int × Int)) (hm : F.length = m) (hF : FatesAt w fo F) (hfo : ∀ a, fo = some a → a.block ≠ k.db) : Calls Try.prog 21 #[.pointer (some ⟨k.d, 0, none⟩), .slice fo m cap] w fun e w' => e = .returned (.int .i64 0) ∧
    DiskAt w' k.calm n size (stl size (fun i => lasts (fateK F i) (fateA F i) size) D W W.length) [] ∧ Kept w w' (fun i => i = k.d ∨ i = k.db ∨ i = k.mb) := by
  have g0 := World.grownBy_alloc w (.cells #[.slice fo m cap] 23) none
  have hdb := h.lt k.db (.inl (.inr (.inl rfl)))
  have H := hide (settle59 ⟨w.heap.size, 0, none⟩ (fateK F) (fateA F) (h.grown g0) (fun i _ w' hg => fate_any i m cap fo F w.heap.size w' hm ((hF.grown g0).kept hg (fun a e e' => hfo a e (Option.some.inj e')))
    (hg.cell (cell_new w _ 23) (fun e => by have : w.heap.size = k.db := Option.some.inj e; omega))))
  have HK : Hid (∀ w' : World, Kept (w.alloc (.cells #[.slice fo m cap] 23)) w' (fun i => i = k.d ∨ i = k.db ∨ i = k.mb) → Kept w w' (fun i => i = k.d ∨ i = k.db ∨ i = k.mb)) := fun w' hk => (Kept.new g0 _).trans hk (fun _ _ e => e)
  have hmf : ∀ (fn : Fn) (first cap : Array Value) (w : World), (Instr.makeFunc fn first cap).run Try.prog w = .ok (.func fn first cap) w := fun _ _ _ _ => rfl
  clear h g0 hF hfo hm hdb
  go_enter Try.func21, Try.ntmps21
  go_wp2_with fail
  refine H.out.mono ?_
  rintro e w' ⟨rfl, h1, h2⟩
  have HH := hide (And.intro h1 (HK.out _ h2))
  clear h1 h2
  go_wp2
  go_ret
  exact ⟨rfl, HH.out⟩
end
end Go.Proofs.Ytaopcidkgcekdaa
