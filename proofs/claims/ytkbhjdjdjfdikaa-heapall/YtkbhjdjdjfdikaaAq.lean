/- What goes through all items of a heap: its entries, cloned and sorted by their handles. -/
import Derived.Test.YtkbhjdjdjfdikaaHn1
import Derived.Test.YtkbhjdjdjfdikaaSh
import Derived.Shelf.SlSortCmp.NoneTotal
import Derived.Sort.OwnSorted
namespace Go.Proofs.Ytkbhjdjdjfdikaa
open Go.RowKit Ap Go.Shelf
attribute [local go_sem ↓] Go.wp_at_zero Go.wp_at_succ
theorem nan_any (x : Int) (w : World) : Calls Try.prog 61 #[.int .i64 x] w fun e w' => e = .returned (.bool false) ∧ w' = w := by
  go_enter Try.func61, Try.ntmps61
  go_wp2
  go_ret
  exact ⟨by simp, rfl⟩
/-- Before, same, behind. -/
def cmpI (a b : Int) : Int := if a < b then -1 else if b < a then 1 else 0
set_option maxRecDepth 20000 in
theorem cmp_any (a b : Int) (w : World) : Calls Try.prog 45 #[.int .i64 a, .int .i64 b] w fun e w' => e = .returned (.int .i64 (cmpI a b)) ∧ w' = w := by
  have hn := fun x => nan_any x w
  by_cases h1 : a < b
  · have e1 : cmpI a b = -1 := if_pos h1
    rw [e1]
    clear e1
    go_enter Try.func45, Try.ntmps45
    go_wp2_with (go_at_call 61; refine (hn _).mono ?_; rintro e w1 ⟨rfl, hw1⟩; obtain rfl := hw1.symm)
    go_ret
    exact ⟨rfl, rfl⟩
  · by_cases h2 : b < a
    · have e1 : cmpI a b = 1 := by rw [cmpI, if_neg h1, if_pos h2]
      rw [e1]
      clear e1
      go_enter Try.func45, Try.ntmps45
      go_wp2_with (go_at_call 61; refine (hn _).mono ?_; rintro e w1 ⟨rfl, hw1⟩; obtain rfl := hw1.symm)
      go_ret
      exact ⟨rfl, rfl⟩
    · have e1 : cmpI a b = 0 := by rw [cmpI, if_neg h1, if_neg h2]
      rw [e1]
      clear e1
      go_enter Try.func45, Try.ntmps45
      go_wp2_with (go_at_call 61; refine (hn _).mono ?_; rintro e w1 ⟨rfl, hw1⟩; obtain rfl := hw1.symm)
      go_ret
      exact ⟨rfl, rfl⟩
set_option maxRecDepth 20000 in
theorem cmpE_any (x y : Nat × Int) (w : World) : Calls Try.prog 44 #[.agg #[.int .i64 (x.1 : Int), .int .i64 x.2], .agg #[.int .i64 (y.1 : Int), .int .i64 y.2]] w fun e w' => e = .returned (.int .i64 (cmpI (x.1 : Int) (y.1 : Int))) ∧ ∃ q os, w' = Go.Sort.grow (w.drewN q) os := by
  have hcon := fun W => cmp_any (x.1 : Int) (y.1 : Int) W
  generalize cmpI (x.1 : Int) (y.1 : Int) = r at hcon ⊢
  go_enter Try.func44, Try.ntmps44
  go_wp2_with (go_at_call 45; refine (hcon _).mono ?_; rintro e w1 ⟨rfl, hw1⟩; obtain rfl := hw1.symm)
  go_ret
  exact ⟨rfl, 0, _, by rw [Go.Sort.alloc_eq_grow, Go.Sort.alloc_eq_grow, Go.Sort.grow_grow]; rfl⟩
def encL (x : Nat × Int) : List Value := [.int .i64 (x.1 : Int), .int .i64 x.2]
def cfE (x y : Nat × Int) : Int := cmpI (x.1 : Int) (y.1 : Int)
theorem ltE (x y : Nat × Int) : ltOf cfE x y = decide (x.1 < y.1) := by
  unfold ltOf cfE cmpI
  by_cases h1 : x.1 < y.1
  · simp [h1]
  · by_cases h2 : y.1 < x.1 <;> simp [h1, h2]
theorem swoE : Go.Sort.SWO (ltOf cfE) where
  irrefl x := by rw [ltE]; simp
  trans x y z h1 h2 := by rw [ltE] at *; simp at *; omega
  ntrans x y z h1 h2 := by rw [ltE] at *; simp at *; omega
theorem grown_sortW {w : World} {g m : Nat} {os : Array Obj} (d : Array (Nat × Int)) : w.grownBy (sortWorldK encL 2 w g 0 m d os) (some g) := by
  refine ⟨rfl, rfl, rfl, by simp [sortWorldK, Go.Sort.putRowK, Go.Sort.grow, Go.Sort.putRow, Go.Sort.mapBlock, Go.Sort.ahead], fun k hk hne => ?_⟩
  have : g ≠ k := fun e => hne (by rw [e])
  unfold sortWorldK
  rw [Go.Sort.heap_grow_old _ _ (by simpa [Go.Sort.putRowK, Go.Sort.putRow, Go.Sort.mapBlock, Go.Sort.ahead] using hk)]
  simp [Go.Sort.putRowK, Go.Sort.putRow, Go.Sort.mapBlock, Go.Sort.ahead, Array.getElem?_modify, this]
theorem sortE_any (blk cap : Nat) (d : Array (Nat × Int)) (w : World) (hH : Go.Sort.HoldsK encL 2 w blk 0 d) (hblk : blk < w.heap.size) (hsz : d.size ≤ 65536) :
    Calls Try.prog 43 #[.slice (some ⟨blk, 0, none⟩) d.size cap, .func (.func 44) #[] #[]] w fun e w' => e = .returned (.tuple #[]) ∧ ∃ d', Go.Sort.PermIn 0 d.size d d' ∧ Go.Sort.SortedIn (ltOf cfE) 0 d.size d' ∧ Go.Sort.HoldsK encL 2 w' blk 0 d' ∧ w.grownBy w' (some blk) := by
  have eg : ∀ args w, (callFunc 44 args).run Try.prog w = .ok (.enter 44 args) w := enters_of Try.func44 (by kernel_rfl) rfl
  have hcon := AnyQ.slices_SortFunc Try.sortE 2 Try.isAgg82 Try.sizeOf82 encL (fun _ => rfl) (fun x v hv => by simp [encL] at hv; rcases hv with rfl | rfl <;> rfl) cfE swoE 44 #[] blk 0 cap d w eg (fun _ _ _ _ x y => cmpE_any x y _) hH hblk (by omega)
  refine hcon.mono ?_
  rintro e w' ⟨rfl, d', n, os, hp, hs, rfl⟩
  exact ⟨rfl, d', hp, hs, holdsK_sortWorldK_c encL 2 w blk 0 d d' n os hH hblk hp.1, grown_sortW d'⟩
end Go.Proofs.Ytkbhjdjdjfdikaa
