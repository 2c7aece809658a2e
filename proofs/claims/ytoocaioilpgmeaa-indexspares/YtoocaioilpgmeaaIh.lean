/- Items, sorted by their ids. -/
import Derived.Test.YtoocaioilpgmeaaIg
import Derived.Test.YtoocaioilpgmeaaSh
import Derived.Shelf.SlSortCmp.NoneTotal
import Derived.Sort.OwnSorted
namespace Go.Proofs.Ytoocaioilpgmeaa
open Go.RowKit Ix Go.Shelf
attribute [local go_sem ↓] Go.wp_at_zero Go.wp_at_succ
theorem nan_any (x : Int) (w : World) : Calls Try.prog 48 #[.int .u32 x] w fun e w' => e = .returned (.bool false) ∧ w' = w := by
  go_enter Try.func48, Try.ntmps48
  go_wp2
  go_ret
  exact ⟨by simp, rfl⟩
/-- Before, same, behind. -/
def cmpI (a b : Int) : Int := if a < b then -1 else if b < a then 1 else 0
set_option maxRecDepth 20000 in
theorem cmp_any (a b : Int) (w : World) : Calls Try.prog 40 #[.int .u32 a, .int .u32 b] w fun e w' => e = .returned (.int .i64 (cmpI a b)) ∧ w' = w := by
  have hn := fun x => nan_any x w
  by_cases h1 : a < b
  · have e1 : cmpI a b = -1 := if_pos h1
    rw [e1]
    clear e1
    go_enter Try.func40, Try.ntmps40
    go_wp2_with (go_at_call 48; refine (hn _).mono ?_; rintro e w1 ⟨rfl, hw1⟩; obtain rfl := hw1.symm)
    go_ret
    exact ⟨rfl, rfl⟩
  · by_cases h2 : b < a
    · have e1 : cmpI a b = 1 := by rw [cmpI, if_neg h1, if_pos h2]
      rw [e1]
      clear e1
      go_enter Try.func40, Try.ntmps40
      go_wp2_with (go_at_call 48; refine (hn _).mono ?_; rintro e w1 ⟨rfl, hw1⟩; obtain rfl := hw1.symm)
      go_ret
      exact ⟨rfl, rfl⟩
    · have e1 : cmpI a b = 0 := by rw [cmpI, if_neg h1, if_neg h2]
      rw [e1]
      clear e1
      go_enter Try.func40, Try.ntmps40
      go_wp2_with (go_at_call 48; refine (hn _).mono ?_; rintro e w1 ⟨rfl, hw1⟩; obtain rfl := hw1.symm)
      go_ret
      exact ⟨rfl, rfl⟩
set_option maxRecDepth 20000 in
theorem cmpE_any (x y : Nat × Int) (w : World) : Calls Try.prog 39 #[.agg #[.int .u32 (x.1 : Int), .int .i64 x.2], .agg #[.int .u32 (y.1 : Int), .int .i64 y.2]] w fun e w' => e = .returned (.int .i64 (cmpI (x.1 : Int) (y.1 : Int))) ∧ ∃ q os, w' = Go.Sort.grow (w.drewN q) os := by
  have hcon := fun W => cmp_any (x.1 : Int) (y.1 : Int) W
  generalize cmpI (x.1 : Int) (y.1 : Int) = r at hcon ⊢
  go_enter Try.func39, Try.ntmps39
  go_wp2_with (go_at_call 40; refine (hcon _).mono ?_; rintro e w1 ⟨rfl, hw1⟩; obtain rfl := hw1.symm)
  go_ret
  exact ⟨rfl, 0, _, by rw [Go.Sort.alloc_eq_grow, Go.Sort.alloc_eq_grow, Go.Sort.grow_grow]; rfl⟩
def encL (x : Nat × Int) : List Value := [.int .u32 (x.1 : Int), .int .i64 x.2]
def cfE (x y : Nat × Int) : Int := cmpI (x.1 : Int) (y.1 : Int)
theorem ltE (x y : Nat × Int) : ltOf cfE x y = decide (x.1 < y.1) := by
  unfold ltOf cfE cmpI
  by_cases h1 : x.1 < y.1
  · simp [h1]
  · by_cases h2 : y.1 < x.1 <;> simp [h1, h2]
theorem swoE : Go.Sort.SWO (ltOf cfE) where
  irrefl x := by rw [ltE]; simp
  trans x y z h1 h2 := by rw [ltE] at *; simp at *; omega
  ntrans x y z h1 h2 := by rw [ltE] at *; simp at *; omega
theorem grown_sortW {w : World} {g m : Nat} {os : Array Obj} (d : Array (Nat × Int)) : w.grownBy (sortWorldK encL 2 w g 0 m d os) (some g) := by
  refine ⟨rfl, rfl, rfl, by simp [sortWorldK, Go.Sort.putRowK, Go.Sort.grow, Go.Sort.putRow, Go.Sort.mapBlock, Go.Sort.ahead], fun k hk hne => ?_⟩
  have : g ≠ k := fun e => hne (by rw [e])
  unfold sortWorldK
  rw [Go.Sort.heap_grow_old _ _ (by simpa [Go.Sort.putRowK, Go.Sort.putRow, Go.Sort.mapBlock, Go.Sort.ahead] using hk)]
  simp [Go.Sort.putRowK, Go.Sort.putRow, Go.Sort.mapBlock, Go.Sort.ahead, Array.getElem?_modify, this]
theorem sortE_any (blk cap : Nat) (d : Array (Nat × Int)) (w : World) (hH : Go.Sort.HoldsK encL 2 w blk 0 d) (hblk : blk < w.heap.size) (hsz : d.size ≤ 65536) :
    Calls Try.prog 38 #[.slice (some ⟨blk, 0, none⟩) d.size cap, .func (.func 39) #[] #[]] w fun e w' => e = .returned (.tuple #[]) ∧ ∃ d', Go.Sort.PermIn 0 d.size d d' ∧ Go.Sort.SortedIn (ltOf cfE) 0 d.size d' ∧ Go.Sort.HoldsK encL 2 w' blk 0 d' ∧ w.grownBy w' (some blk) := by
  have eg : ∀ args w, (callFunc 39 args).run Try.prog w = .ok (.enter 39 args) w := enters_of Try.func39 (by kernel_rfl) rfl
  have hcon := AnyQ.slices_SortFunc Try.sortE 2 Try.isAgg69 Try.sizeOf69 encL (fun _ => rfl) (fun x v hv => by simp [encL] at hv; rcases hv with rfl | rfl <;> rfl) cfE swoE 39 #[] blk 0 cap d w eg (fun _ _ _ _ x y => cmpE_any x y _) hH hblk (by omega)
  refine hcon.mono ?_
  rintro e w' ⟨rfl, d', n, os, hp, hs, rfl⟩
  exact ⟨rfl, d', hp, hs, holdsK_sortWorldK_c encL 2 w blk 0 d d' n os hH hblk hp.1, grown_sortW d'⟩
/-- Items as they lie in cells. -/
def icells (E : List (Nat × Int)) : List Value := E.flatMap fun e => [.int .u32 (e.1 : Int), .int .i64 e.2]
theorem icells_length (E : List (Nat × Int)) : (icells E).length = E.length * 2 := by
  induction E with
  | nil => rfl
  | cons x r ih => simp [icells] at ih ⊢; omega
theorem icells_snoc (E : List (Nat × Int)) (x : Nat × Int) : icells (E ++ [x]) = icells E ++ [.int .u32 (x.1 : Int), .int .i64 x.2] := by simp [icells]
theorem icells_get {E : List (Nat × Int)} {i : Nat} (h : i < E.length) : (icells E)[i * 2]? = some (.int .u32 ((en E i).1 : Int)) ∧ (icells E)[i * 2 + 1]? = some (.int .i64 (en E i).2) := by
  induction E generalizing i with
  | nil => simp at h
  | cons y r ih =>
    cases i with
    | zero => simp [icells, en]
    | succ i =>
      have := ih (i := i) (by simpa using h)
      have e : icells (y :: r) = .int .u32 (y.1 : Int) :: .int .i64 y.2 :: icells r := by simp [icells]
      have e2 : en (y :: r) (i + 1) = en r i := by simp [en]
      rw [e, e2, show (i + 1) * 2 = i * 2 + 2 by omega, show i * 2 + 2 + 1 = (i * 2 + 1) + 2 by omega]
      simpa using this
/-- The clone's row, as the sort wants it. -/
theorem holds_row {w : World} {g : Nat} {cur : List Value} {E : List (Nat × Int)} (hg : w.heap[g]? = some (.cells cur.toArray 69 (0, 0))) (ht : cur.take (E.length * 2) = icells E) : Go.Sort.HoldsK encL 2 w g 0 E.toArray := by
  intro j hj
  rw [Go.Sort.size_flatK] at hj
  refine ⟨?_, free_row hg _⟩
  rw [Go.Sort.get_flatK _ _ _ _ hj, Nat.zero_add]
  have hj' : j < E.length * 2 := by simpa using hj
  have hi : j / 2 < E.length := by omega
  have he : E.toArray[j / 2]! = en E (j / 2) := by simp [en, hi]
  rw [he]
  obtain ⟨h1, h2⟩ := icells_get hi
  rcases Nat.mod_two_eq_zero_or_one j with hm | hm
  · have hjj : j / 2 * 2 = j := by omega
    rw [hjj] at h1
    rw [hm, own_cell hg ht h1]
    rfl
  · have hjj : j / 2 * 2 + 1 = j := by omega
    rw [hjj] at h2
    rw [hm, own_cell hg ht h2]
    rfl
theorem perm_whole {d d' : Array (Nat × Int)} (h : Go.Sort.PermIn 0 d.size d d') : d'.toList.Perm d.toList := by
  have h2 := h.2.2
  have e1 : d'.extract 0 d.size = d' := by rw [← h.1]; simp
  have e2 : d.extract 0 d.size = d := by simp
  rw [e1, e2] at h2
  exact h2
/-- What the sort leaves of rows with distinct handles: the one order by rising handles. -/
theorem sorted_is {E X : List (Nat × Int)} {d' : Array (Nat × Int)} (hp : Go.Sort.PermIn 0 E.toArray.size E.toArray d') (hs : Go.Sort.SortedIn (ltOf cfE) 0 E.toArray.size d') (hX : X.Perm E) (hA : Asc X) : d' = X.toArray := by
  have hperm : d'.toList.Perm X := (perm_whole hp).trans hX.symm
  have hnd : (X.map (·.1)).Nodup := by
    have := hA
    unfold Asc at this
    exact List.pairwise_map.2 (this.imp (fun h => by omega))
  have hnd' : (d'.toList.map (·.1)).Nodup := (hperm.map _).nodup_iff.2 hnd
  have hasc : Asc d'.toList := by
    unfold Asc
    rw [List.pairwise_iff_getElem]
    intro i j hi hj hij
    have hsz : d'.size = E.toArray.size := hp.1
    have h1 := hs i j (Nat.zero_le _) hij (by rw [← hsz]; simpa using hj)
    rw [ltE] at h1
    rw [getElem!_pos d' j (by simpa using hj), getElem!_pos d' i (by simpa using hi)] at h1
    have h2 : d'.toList[i].1 ≠ d'.toList[j].1 := by
      have := List.pairwise_iff_getElem.1 hnd' i j (by simpa using hi) (by simpa using hj) hij
      simpa using this
    simp at h1 h2 ⊢
    omega
  have := asc_unique hasc hA hperm
  rw [← this]
/-- The sort of items. -/
theorem sort_row {w : World} {B0 : Nat} {so : Option Addr} {cap : Nat} {E X : List (Nat × Int)} (hr : w.ownsRow B0 69 2 (.slice so E.length cap) E.length (icells E)) (hE : E.length ≤ 65536) (hX : X.Perm E) (hA : Asc X) :
    Calls Try.prog 38 #[.slice so E.length cap, .func (.func 39) #[] #[]] w fun e w' => e = .returned (.tuple #[]) ∧ w.grownBy w' (Value.slice so E.length cap).ownBlock ∧ (∀ i, i < X.length → ∃ g, so = some ⟨g, 0, none⟩ ∧ w'.cell? ⟨g, i * 2, none⟩ = some (.int .u32 ((en X i).1 : Int)) ∧ w'.cell? ⟨g, i * 2 + 1, none⟩ = some (.int .i64 (en X i).2)) := by
  have hXl : X.length = E.length := hX.length_eq
  by_cases hz : 0 < E.length
  · obtain ⟨g, c2, cur, hv, hb, hg, hn, -, -, ht⟩ := own_row hr hz
    cases hv
    have hh := holds_row hg ht
    have hc := sortE_any g cap E.toArray w hh (row_lt hg) (by simpa using hE)
    rw [show E.toArray.size = E.length by simp] at hc
    refine hc.mono ?_
    rintro e w' ⟨rfl, d', hp, hs, hh', hgr⟩
    have he := sorted_is (d' := d') (by simpa using hp) (by simpa using hs) hX hA
    subst he
    refine ⟨rfl, hgr, fun i hi => ⟨g, rfl, ?_, ?_⟩⟩
    · have := (hh'.cell (i := i) (c := 0) (by simpa using hi) (by omega)).1
      simpa [encL, en, hi] using this
    · have := (hh'.cell (i := i) (c := 1) (by simpa using hi) (by omega)).1
      simpa [encL, en, hi] using this
  · have h0 : E.length = 0 := by omega
    rw [h0]
    refine (AnyF.slices_SortFunc_none Try.sortE so cap (.func (.func 39) #[] #[]) w).mono ?_
    rintro e w' ⟨rfl, rfl⟩
    exact ⟨rfl, grown_refl _ _, fun i hi => by omega⟩
end Go.Proofs.Ytoocaioilpgmeaa
