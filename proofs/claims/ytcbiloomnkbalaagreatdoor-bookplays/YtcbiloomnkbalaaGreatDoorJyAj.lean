/- Texts joined: IxIh, IxIi, IxIj, Rv, IxIv. -/
import Derived.Deep.CutRange
import Derived.Deep.DeepCutAuto
import Derived.RangeFuncNested
import Derived.RangeFuncBound
import Derived.RangeFuncCalls
import Derived.RangeFuncLeaves
import Derived.RangeFuncBox
import Derived.Shelf.Abstract
import Derived.Shelf.RegionOpen
import Derived.OwnWalkIn
import Derived.TacticsInMore
import Derived.LoopNIn
import Derived.LoopIn
import Derived.Shelf.SlSortCmp.WholeK
import Derived.Ground.SlsfProg
import Derived.Shelf.SlSortCmp.NoneTotal
import Derived.Sort.OwnSorted
import Derived.Test.YtcbiloomnkbalaaGreatDoorJyAi
import Derived.OrdersIn
import Derived.OrdersHeld
import Derived.Deep.RegionHeld
import Derived.Deep.Quiet
/- Items, sorted by their ids. -/
namespace Go.Proofs.YtcbiloomnkbalaaGreatDoor.Ix
open Go.RowKit Go.Shelf
attribute [local go_sem ↓] Go.wp_at_zero Go.wp_at_succ
theorem nan_any (x : Int) (w : World) : Calls Tryz.prog 118 #[.int .u32 x] w fun e w' => e = .returned (.bool false) ∧ w' = w := by
  go_enter Tryz.func118, Tryz.ntmps118
  go_wp2
  go_ret
  exact ⟨by simp, rfl⟩
/-- Before, same, behind. -/
def cmpI (a b : Int) : Int := if a < b then -1 else if b < a then 1 else 0
set_option maxRecDepth 20000 in
theorem cmp_any (a b : Int) (w : World) : Calls Tryz.prog 103 #[.int .u32 a, .int .u32 b] w fun e w' => e = .returned (.int .i64 (cmpI a b)) ∧ w' = w := by
  have hn := fun x => nan_any x w
  by_cases h1 : a < b
  · have e1 : cmpI a b = -1 := if_pos h1
    rw [e1]
    clear e1
    go_enter Tryz.func103, Tryz.ntmps103
    go_wp2_with (go_at_call 118; refine (hn _).mono ?_; rintro e w1 ⟨rfl, hw1⟩; obtain rfl := hw1.symm)
    go_ret
    exact ⟨rfl, rfl⟩
  · by_cases h2 : b < a
    · have e1 : cmpI a b = 1 := by rw [cmpI, if_neg h1, if_pos h2]
      rw [e1]
      clear e1
      go_enter Tryz.func103, Tryz.ntmps103
      go_wp2_with (go_at_call 118; refine (hn _).mono ?_; rintro e w1 ⟨rfl, hw1⟩; obtain rfl := hw1.symm)
      go_ret
      exact ⟨rfl, rfl⟩
    · have e1 : cmpI a b = 0 := by rw [cmpI, if_neg h1, if_neg h2]
      rw [e1]
      clear e1
      go_enter Tryz.func103, Tryz.ntmps103
      go_wp2_with (go_at_call 118; refine (hn _).mono ?_; rintro e w1 ⟨rfl, hw1⟩; obtain rfl := hw1.symm)
      go_ret
      exact ⟨rfl, rfl⟩
set_option maxRecDepth 20000 in
theorem cmpE_any (x y : Nat × Int) (w : World) : Calls Tryz.prog 102 #[.agg #[.int .u32 (x.1 : Int), .int .i64 x.2], .agg #[.int .u32 (y.1 : Int), .int .i64 y.2]] w fun e w' => e = .returned (.int .i64 (cmpI (x.1 : Int) (y.1 : Int))) ∧ ∃ q os, w' = Go.Sort.grow (w.drewN q) os := by
  have hcon := fun W => cmp_any (x.1 : Int) (y.1 : Int) W
  generalize cmpI (x.1 : Int) (y.1 : Int) = r at hcon ⊢
  go_enter Tryz.func102, Tryz.ntmps102
  go_wp2_with (go_at_call 103; refine (hcon _).mono ?_; rintro e w1 ⟨rfl, hw1⟩; obtain rfl := hw1.symm)
  go_ret
  exact ⟨rfl, 0, _, by rw [Go.Sort.alloc_eq_grow, Go.Sort.alloc_eq_grow, Go.Sort.grow_grow]; rfl⟩
def encL (x : Nat × Int) : List Value := [.int .u32 (x.1 : Int), .int .i64 x.2]
def cfE (x y : Nat × Int) : Int := cmpI (x.1 : Int) (y.1 : Int)
theorem ltE (x y : Nat × Int) : ltOf cfE x y = decide (x.1 < y.1) := by
  unfold ltOf cfE cmpI
  by_cases h1 : x.1 < y.1
  · simp [h1]
  · by_cases h2 : y.1 < x.1 <;> simp [h1, h2]
theorem swoE : Go.Sort.SWO (ltOf cfE) where
  irrefl x := by rw [ltE]; simp
  trans x y z h1 h2 := by rw [ltE] at *; simp at *; omega
  ntrans x y z h1 h2 := by rw [ltE] at *; simp at *; omega
theorem grown_sortW {w : World} {g m : Nat} {os : Array Obj} (d : Array (Nat × Int)) : w.grownBy (sortWorldK encL 2 w g 0 m d os) (some g) := by
  refine ⟨rfl, rfl, rfl, by simp [sortWorldK, Go.Sort.putRowK, Go.Sort.grow, Go.Sort.putRow, Go.Sort.mapBlock, Go.Sort.ahead], fun k hk hne => ?_⟩
  have : g ≠ k := fun e => hne (by rw [e])
  unfold sortWorldK
  rw [Go.Sort.heap_grow_old _ _ (by simpa [Go.Sort.putRowK, Go.Sort.putRow, Go.Sort.mapBlock, Go.Sort.ahead] using hk)]
  simp [Go.Sort.putRowK, Go.Sort.putRow, Go.Sort.mapBlock, Go.Sort.ahead, Array.getElem?_modify, this]
theorem sortE_any (blk cap : Nat) (d : Array (Nat × Int)) (w : World) (hH : Go.Sort.HoldsK encL 2 w blk 0 d) (hblk : blk < w.heap.size) (hsz : d.size ≤ 65536) :
    Calls Tryz.prog 101 #[.slice (some ⟨blk, 0, none⟩) d.size cap, .func (.func 102) #[] #[]] w fun e w' => e = .returned (.tuple #[]) ∧ ∃ d', Go.Sort.PermIn 0 d.size d d' ∧ Go.Sort.SortedIn (ltOf cfE) 0 d.size d' ∧ Go.Sort.HoldsK encL 2 w' blk 0 d' ∧ w.grownBy w' (some blk) := by
  have eg : ∀ args w, (callFunc 102 args).run Tryz.prog w = .ok (.enter 102 args) w := enters_of Tryz.func102 (by kernel_rfl) rfl
  have hcon := AnyQ.slices_SortFunc Tryz.sortE 2 Tryz.isAgg146 Tryz.sizeOf146 encL (fun _ => rfl) (fun x v hv => by simp [encL] at hv; rcases hv with rfl | rfl <;> rfl) cfE swoE 102 #[] blk 0 cap d w eg (fun _ _ _ _ x y => cmpE_any x y _) hH hblk (by omega)
  refine hcon.mono ?_
  rintro e w' ⟨rfl, d', n, os, hp, hs, rfl⟩
  exact ⟨rfl, d', hp, hs, holdsK_sortWorldK_c encL 2 w blk 0 d d' n os hH hblk hp.1, grown_sortW d'⟩
/-- Items as they lie in cells. -/
def icells (E : List (Nat × Int)) : List Value := E.flatMap fun e => [.int .u32 (e.1 : Int), .int .i64 e.2]
theorem icells_snoc (E : List (Nat × Int)) (x : Nat × Int) : icells (E ++ [x]) = icells E ++ [.int .u32 (x.1 : Int), .int .i64 x.2] := by simp [icells]
theorem icells_get {E : List (Nat × Int)} {i : Nat} (h : i < E.length) : (icells E)[i * 2]? = some (.int .u32 ((en E i).1 : Int)) ∧ (icells E)[i * 2 + 1]? = some (.int .i64 (en E i).2) := by
  induction E generalizing i with
  | nil => simp at h
  | cons y r ih =>
    cases i with
    | zero => simp [icells, en]
    | succ i =>
      have := ih (i := i) (by simpa using h)
      have e : icells (y :: r) = .int .u32 (y.1 : Int) :: .int .i64 y.2 :: icells r := by simp [icells]
      have e2 : en (y :: r) (i + 1) = en r i := by simp [en]
      rw [e, e2, show (i + 1) * 2 = i * 2 + 2 by omega, show i * 2 + 2 + 1 = (i * 2 + 1) + 2 by omega]
      simpa using this
/-- The clone's row, as the sort wants it. -/
theorem holds_row {w : World} {g : Nat} {cur : List Value} {E : List (Nat × Int)} (hg : w.heap[g]? = some (.cells cur.toArray 146 (0, 0))) (ht : cur.take (E.length * 2) = icells E) : Go.Sort.HoldsK encL 2 w g 0 E.toArray := by
  intro j hj
  rw [Go.Sort.size_flatK] at hj
  refine ⟨?_, free_row hg _⟩
  rw [Go.Sort.get_flatK _ _ _ _ hj, Nat.zero_add]
  have hj' : j < E.length * 2 := by simpa using hj
  have hi : j / 2 < E.length := by omega
  have he : E.toArray[j / 2]! = en E (j / 2) := by simp [en, hi]
  rw [he]
  obtain ⟨h1, h2⟩ := icells_get hi
  rcases Nat.mod_two_eq_zero_or_one j with hm | hm
  · have hjj : j / 2 * 2 = j := by omega
    rw [hjj] at h1
    rw [hm, own_cell hg ht h1]
    rfl
  · have hjj : j / 2 * 2 + 1 = j := by omega
    rw [hjj] at h2
    rw [hm, own_cell hg ht h2]
    rfl
theorem perm_whole {d d' : Array (Nat × Int)} (h : Go.Sort.PermIn 0 d.size d d') : d'.toList.Perm d.toList := by
  have h2 := h.2.2
  have e1 : d'.extract 0 d.size = d' := by rw [← h.1]; simp
  have e2 : d.extract 0 d.size = d := by simp
  rw [e1, e2] at h2
  exact h2
/-- What the sort leaves of rows with distinct handles: the one order by rising handles. -/
theorem sorted_is {E X : List (Nat × Int)} {d' : Array (Nat × Int)} (hp : Go.Sort.PermIn 0 E.toArray.size E.toArray d') (hs : Go.Sort.SortedIn (ltOf cfE) 0 E.toArray.size d') (hX : X.Perm E) (hA : Asc X) : d' = X.toArray := by
  have hperm : d'.toList.Perm X := (perm_whole hp).trans hX.symm
  have hnd : (X.map (·.1)).Nodup := by
    have := hA
    unfold Asc at this
    exact List.pairwise_map.2 (this.imp (fun h => by omega))
  have hnd' : (d'.toList.map (·.1)).Nodup := (hperm.map _).nodup_iff.2 hnd
  have hasc : Asc d'.toList := by
    unfold Asc
    rw [List.pairwise_iff_getElem]
    intro i j hi hj hij
    have hsz : d'.size = E.toArray.size := hp.1
    have h1 := hs i j (Nat.zero_le _) hij (by rw [← hsz]; simpa using hj)
    rw [ltE] at h1
    rw [getElem!_pos d' j (by simpa using hj), getElem!_pos d' i (by simpa using hi)] at h1
    have h2 : d'.toList[i].1 ≠ d'.toList[j].1 := by
      have := List.pairwise_iff_getElem.1 hnd' i j (by simpa using hi) (by simpa using hj) hij
      simpa using this
    simp at h1 h2 ⊢
    omega
  have := asc_unique hasc hA hperm
  rw [← this]
/-- The sort of items. -/
theorem sort_row {w : World} {B0 : Nat} {so : Option Addr} {cap : Nat} {E X : List (Nat × Int)} (hr : w.ownsRow B0 146 2 (.slice so E.length cap) E.length (icells E)) (hE : E.length ≤ 65536) (hX : X.Perm E) (hA : Asc X) :
    Calls Tryz.prog 101 #[.slice so E.length cap, .func (.func 102) #[] #[]] w fun e w' => e = .returned (.tuple #[]) ∧ w.grownBy w' (Value.slice so E.length cap).ownBlock ∧ (∀ i, i < X.length → ∃ g, so = some ⟨g, 0, none⟩ ∧ w'.cell? ⟨g, i * 2, none⟩ = some (.int .u32 ((en X i).1 : Int)) ∧ w'.cell? ⟨g, i * 2 + 1, none⟩ = some (.int .i64 (en X i).2)) := by
  have hXl : X.length = E.length := hX.length_eq
  by_cases hz : 0 < E.length
  · obtain ⟨g, c2, cur, hv, hb, hg, hn, -, -, ht⟩ := own_row hr hz
    cases hv
    have hh := holds_row hg ht
    have hc := sortE_any g cap E.toArray w hh (row_lt hg) (by simpa using hE)
    rw [show E.toArray.size = E.length by simp] at hc
    refine hc.mono ?_
    rintro e w' ⟨rfl, d', hp, hs, hh', hgr⟩
    have he := sorted_is (d' := d') (by simpa using hp) (by simpa using hs) hX hA
    subst he
    refine ⟨rfl, hgr, fun i hi => ⟨g, rfl, ?_, ?_⟩⟩
    · have := (hh'.cell (i := i) (c := 0) (by simpa using hi) (by omega)).1
      simpa [encL, en, hi] using this
    · have := (hh'.cell (i := i) (c := 1) (by simpa using hi) (by omega)).1
      simpa [encL, en, hi] using this
  · have h0 : E.length = 0 := by omega
    rw [h0]
    refine (AnyF.slices_SortFunc_none Tryz.sortE so cap (.func (.func 102) #[] #[]) w).mono ?_
    rintro e w' ⟨rfl, rfl⟩
    exact ⟨rfl, grown_refl _ _, fun i hi => by omega⟩
end Go.Proofs.YtcbiloomnkbalaaGreatDoor.Ix
/- All of an index. -/
namespace Go.Proofs.YtcbiloomnkbalaaGreatDoor.Ix
open Go.RowKit Go.Shelf
attribute [local go_sem ↓] Go.wp_at_zero Go.wp_at_succ
theorem Tryz.info146 : (Tryz.prog.info? 146).map (fun i => (i.zero, i.size, i.bytes)) = some (some (.agg #[.int .u32 0, .int .i64 0]), 2, 16) := by kernel_rfl
def its (S : List (Option (Nat × Int))) : List (Nat × Int) := S.filterMap id
theorem its_take {S : List (Option (Nat × Int))} {i : Nat} (h : i < S.length) : its (S.take (i + 1)) = its (S.take i) ++ (sl S i).toList := by
  unfold its sl
  rw [List.take_add_one, List.filterMap_append, List.getElem?_eq_getElem h]
  simp
  cases S[i] <;> simp
theorem its_len (S : List (Option (Nat × Int))) : (its S).length ≤ S.length := List.length_filterMap_le _ _
theorem two_cells (W : World) (a b : Value) (t : TypeId) : ∀ j u, [a, b][j]? = some u → (W.alloc (.cells #[a, b] t)).cell? ((⟨W.heap.size, 0, none⟩ : Addr).add j) = some u := by
  intro j u hu
  rw [Addr.add_lit, Nat.zero_add, cell_row (heap_alloc_new W (.cells [a, b].toArray t))]
  exact hu
set_option maxRecDepth 20000 in
set_option maxHeartbeats 2000000 in
theorem items_at {w : World} {x g n m c st : Nat} {S : List (Option (Nat × Int))} (h : IxR w x g n m c st S) : Calls Tryz.prog 100 #[.pointer (some ⟨x, 0, none⟩)] w fun e w' => ∃ so cap, e = .returned (.slice so (its S).length cap) ∧ w'.ownsRow w.heap.size 146 2 (.slice so (its S).length cap) (its S).length (icells (its S)) ∧ w.grownBy w' none := by
  obtain ⟨i0, hi0, hz0, hz1, hz2⟩ := info_parts Tryz.info146
  have HI0 := hide (And.intro hi0 (And.intro hz0 (And.intro hz1 hz2)))
  have hno := none_at h
  obtain ⟨-, -, -, -, c4⟩ := h.cells
  have hn8 := h.most
  have HH := hide h
  clear h hi0 hz0 hz1 hz2
  go_enter Tryz.func100, Tryz.ntmps100
  go_wp2_with fail
  refine hno.mono ?_
  clear hno
  rintro e w1 ⟨rfl, hw1⟩
  obtain rfl := hw1.symm
  go_wp2
  go_loopg [3, 13] n (fun q v3 v13 wr => ∃ i : Nat, v13 = .int .i64 (i : Int) ∧ Hid (q = n - i ∧ i ≤ n ∧ w.grownBy wr none ∧ wr.ownsRow w.heap.size 146 2 v3 (its (S.take i)).length (icells (its (S.take i)))))
  case atStart => exact ⟨0, rfl, rfl, Nat.zero_le _, grown_refl _ _, World.ownsRow_nil _ _ _ _⟩
  case round =>
    obtain ⟨i, rfl, HR⟩ := hrel
    by_cases hlt : i < n
    · have hI := HH.out.then HR.out.2.2.1
      obtain ⟨d0, d1, d2⟩ := hI.slot hlt
      have hlS : i < S.length := by rw [hI.len]; exact hlt
      have htk := its_take hlS
      have hle := its_len (S.take i)
      have hlt' : ((i : Int) < (n : Int)) = True := by simp; omega
      have hwr : IntKind.i64.wrap ((i : Int) + 1) = ((i : Int) + 1) := by rw [IntKind.wrap_i64]; omega
      have hle2 : (its (S.take i)).length ≤ 8192 := by have := List.length_take_le i S; omega
      cases hy : sl S i with
      | none =>
        rw [hy] at d0 d1 d2 htk
        simp only [Option.isSome] at d0
        have HT := hide htk
        clear htk hI hlS hle
        generalize idN none = z1 at *
        generalize vlN none = z2 at *
        go_wp2
        go_roundg (gk - 1)
        case rel => exact ⟨i + 1, by simp, by have := HR.out.1; omega, by omega, grown_trans HR.out.2.2.1 (World.grownBy_alloc wr _ none), by rw [HT.out]; simp only [Option.toList, List.append_nil]; exact HR.out.2.2.2.alloc _⟩
        case measure => have := HR.out.1; omega
      | some y =>
        rw [hy] at d0 d1 d2 htk
        simp only [Option.isSome] at d0
        rw [show idN (some y) = y.1 from rfl] at d1
        rw [show vlN (some y) = y.2 from rfl] at d2
        have HT := hide htk
        clear htk hI hlS
        obtain ⟨y1, hy1⟩ : ∃ y1, y1 = y.1 := ⟨_, rfl⟩
        obtain ⟨y2, hy2⟩ : ∃ y2, y2 = y.2 := ⟨_, rfl⟩
        rw [← hy1] at d1
        rw [← hy2] at d2
        have HY := hide (And.intro hy1 hy2)
        clear hy1 hy2 hle
        have hA := World.grownBy_alloc wr (.cells #[.bool true, .int .u32 (y1 : Int), .int .i64 y2] 148) none
        have hB := World.grownBy_alloc (wr.alloc (.cells #[.bool true, .int .u32 (y1 : Int), .int .i64 y2] 148)) (.cells #[.int .u32 (y1 : Int), .int .i64 y2] 146) none
        have hgB := hide (grown_trans HR.out.2.2.1 (grown_trans hA hB))
        clear hA hB
        have hcs := two_cells (wr.alloc (.cells #[.bool true, .int .u32 (y1 : Int), .int .i64 y2] 148)) (.int .u32 (y1 : Int)) (.int .i64 y2) 146
        have HCS := hide hcs
        clear hcs
        go_wp2_with (at_builtin; refine wpList_append_own _ rfl (.tmp 19) (.tmp 22) 152 rfl w.heap.size 146 i0 (.agg #[.int .u32 0, .int .i64 0]) 2 16 Tryz.underlying152 HI0.out.1 HI0.out.2.1 HI0.out.2.2.1 HI0.out.2.2.2 rfl (by decide) u3 (its (S.take i)).length (icells (its (S.take i))) rfl ((HR.out.2.2.2.alloc _).alloc _) ⟨wr.heap.size + 1, 0, none⟩ 1 1 [.int .u32 (y1 : Int), .int .i64 y2] rfl rfl (by have := HCS.out; rw [World.size_alloc] at this; exact this) (by simp [Value.oneCell']) (by unfold maxLen; omega) (by omega) hgB.out.size ?_)
        intro v' w' ho hg hv
        clear hv
        have H := hide (And.intro ho (grown_then hgB.out hg (fun j e => Or.inl (HR.out.2.2.2.lt j e).1)))
        clear ho hg
        go_wp2
        go_roundg (gk - 1)
        case rel => exact ⟨i + 1, by simp, by have := HR.out.1; omega, by omega, H.out.2, by rw [HT.out]; simp only [Option.toList, List.length_append, List.length_cons, List.length_nil]; rw [icells_snoc, ← HY.out.1, ← HY.out.2]; exact H.out.1⟩
        case measure => have := HR.out.1; omega
    · have hlt' : ((i : Int) < (n : Int)) = False := by simp; omega
      obtain rfl : i = n := by have := HR.out.2.1; omega
      have hr := HR.out.2.2.2
      rw [show S.take i = S by rw [← HH.out.len]; exact List.take_length] at hr
      obtain ⟨so, cap, rfl, -⟩ := own_form hr
      have H := hide hr
      clear hr
      go_wp2
      go_ret
      exact ⟨so, cap, rfl, H.out, HR.out.2.2.1⟩
end Go.Proofs.YtcbiloomnkbalaaGreatDoor.Ix
/- All of an index: the iterator's value. -/
namespace Go.Proofs.YtcbiloomnkbalaaGreatDoor.Ix
open Go.RowKit Go.Shelf
attribute [local go_sem ↓] Go.wp_at_zero Go.wp_at_succ
/-- What goes through the items M, its blocks from B0 on. -/
def AllV (w : World) (B0 : Nat) (v : Value) (M : List (Nat × Int)) : Prop := ∃ B so cap, v = .func (.func 104) #[] #[.pointer (some ⟨B, 0, none⟩)] ∧ ItE w B so cap M ∧ B0 ≤ B ∧ (∀ a, so = some a → B0 ≤ a.block)
theorem all_of {w : World} {arg : Value} {E X : List (Nat × Int)} (hit : Calls Tryz.prog 100 #[arg] w fun e w' => ∃ so cap, e = .returned (.slice so E.length cap) ∧ w'.ownsRow w.heap.size 146 2 (.slice so E.length cap) E.length (icells E) ∧ w.grownBy w' none) (hE : E.length ≤ 65536) (hX : X.Perm E) (hA : Asc X) :
    Calls Tryz.prog 81 #[arg] w fun e w' => ∃ v, e = .returned v ∧ AllV w' w.heap.size v X ∧ w.grownBy w' none := by
  have hXl : X.length = E.length := hX.length_eq
  have hmf : ∀ (fn : Fn) (first cap : Array Value) (w : World), (Instr.makeFunc fn first cap).run Tryz.prog w = .ok (.func fn first cap) w := fun _ _ _ _ => rfl
  have HE := hide (And.intro hE (And.intro hX (And.intro hA hXl)))
  clear hE hX hA hXl
  go_enter Tryz.func81, Tryz.ntmps81
  go_wp2_with fail
  refine hit.mono ?_
  clear hit
  rintro e w1 ⟨so, cap, rfl, hr1, g1⟩
  obtain ⟨w2, hw2⟩ : ∃ w2, w2 = w1.alloc (.cells #[.slice so E.length cap] 152) := ⟨_, rfl⟩
  have g2 : w1.grownBy w2 none := by rw [hw2]; exact World.grownBy_alloc w1 _ none
  have hB2 : w2.heap[w1.heap.size]? = some (.cells [Value.slice so E.length cap].toArray 152 (0, 0)) := by rw [hw2]; exact heap_alloc_new w1 _
  have hr2 : w2.ownsRow w.heap.size 146 2 (.slice so E.length cap) E.length (icells E) := by rw [hw2]; exact hr1.alloc _
  have hso := sort_row hr2 HE.out.1 HE.out.2.1 HE.out.2.2.1
  rw [hw2] at hso
  have H2 := hide (And.intro hw2 (And.intro g2 (And.intro hB2 (And.intro hr2 (And.intro hr1 g1)))))
  clear hw2 g2 hB2 hr2 hr1 g1
  go_wp2_with fail
  refine hso.mono ?_
  clear hso
  rintro e w4 ⟨rfl, g4, hc4⟩
  rw [← H2.out.1] at g4
  have H4 := hide (And.intro g4 hc4)
  clear g4 hc4
  go_wp2
  go_ret
  have hsz := H2.out.2.2.2.2.2.size
  have hblk : ∀ g, (Value.slice so E.length cap).ownBlock = some g → w.heap.size ≤ g ∧ g ≠ w1.heap.size := fun g hg => by
    obtain ⟨h1, cur, hc⟩ := own_block H2.out.2.2.2.2.1 hg
    exact ⟨h1, fun e => by have := row_lt hc; omega⟩
  refine ⟨_, rfl, ⟨w1.heap.size, so, cap, rfl, ⟨?_, ?_, H4.out.2⟩, hsz, fun a ha => (hblk a.block (by rw [ha]; rfl)).1⟩, ?_⟩
  · rw [HE.out.2.2.2]
    exact (H4.out.1.block _ (row_lt H2.out.2.2.1) (fun e => (hblk _ e.symm).2 rfl)).trans H2.out.2.2.1
  · obtain ⟨vo, c2, hv, hle⟩ := own_form H2.out.2.2.2.1
    cases hv
    rw [HE.out.2.2.2]
    exact hle
  · exact grown_then (grown_trans H2.out.2.2.2.2.2 H2.out.2.1) H4.out.1 (fun j e => Or.inl (hblk j e).1)
theorem all_io {w : World} {p : Ip} {M : List (Nat × Int)} {lo : Bool} (h : Io w p M lo) :
    Calls Tryz.prog 81 #[.pointer (some ⟨p.x, 0, none⟩)] w fun e w' => ∃ v, e = .returned v ∧ AllV w' w.heap.size v M ∧ w.grownBy w' none := by
  obtain ⟨st, S, h1, _⟩ := h
  have hp := h1.inv.perm
  have hl := hp.length_eq
  exact all_of (items_at h1.at_) (by have := h1.full; have := h1.m2; unfold its; omega) hp.symm h1.inv.asc
/-- No index: none, or one that New did not answer. -/
def NoIx (w : World) (v : Value) : Prop := v = .pointer none ∨ ∃ x, v = .pointer (some ⟨x, 0, none⟩) ∧ w.cell? ⟨x, 0, none⟩ = some (.pointer none)
theorem NoIx.then {w w' : World} {v : Value} (h : NoIx w v) (g : w.grownBy w' none) : NoIx w' v := by
  rcases h with h | ⟨x, h1, h2⟩
  · exact .inl h
  · exact .inr ⟨x, h1, g.cell h2 (by simp)⟩
end Go.Proofs.YtcbiloomnkbalaaGreatDoor.Ix
/- A range over a function whose elements lead to memory: what is so of an element when it is handed on is told to the loop's body. -/
namespace Go.Proofs.YtcbiloomnkbalaaGreatDoor
open Go.RowKit

/-- New blocks alone leave it so. -/
def Stands {β : Type} (J : β → World → Prop) : Prop := ∀ s A B, J s A → A.grownBy B none → J s B

/-- What the iterator g does from W on: it hands on elements x, each with V pre x in the world in which it is handed on (pre: those ahead of it). -/
def SeqV {α : Type} (F : Fence) (n : Nat) (P : Program) (g : Nat) (lb : Array Value) (encs : α → Array Value) (Kp : World → World → Prop) (V : List α → α → World → Prop) (S : List α → Prop) (W : World) : Prop :=
  ∀ (l : Nat) (J Jx : List α → World → Prop), Stands J → Stands Jx →
    (∀ pre x W1, J pre W1 → V pre x W1 → YieldAt F (n - 1) P l (encs x) W1 fun e W' =>
      (e = .returned (.bool true) ∧ J (pre ++ [x]) W' ∧ Kp W1 W') ∨ (e = .returned (.bool false) ∧ Jx (pre ++ [x]) W')) →
    J [] W →
    CallsIn F n P g (#[.func (.yield l) #[] #[]] ++ lb) W fun e W' => (∃ v, e = .returned v) ∧ ((∃ xs, S xs ∧ J xs W') ∨ (∃ pre, Jx pre W'))

theorem OwnFrom.stands {β : Type} {B : Nat} {I : β → World → Prop} (h : OwnFrom B I) : Stands I := fun s A C hs hg => h s A C none hs hg (fun r e => by cases e)

variable {F : Fence} {n : Nat} {P : Program}

theorem wpIn_range_V {α : Type} {g : Operand} {ps : Array Tmp} {assign body : Code} {Q : Exit → Act → World → Prop} {a : Act} {w : World}
    (hro : F.round = none) (h1 : 1 ≤ n) {gf : Nat} {lb : Array Value} (hg : a.eval g = .func (.func gf) #[] lb) (hFg : F.fn gf) (eg : ∀ args w, (callFunc gf args).run P w = .ok (.enter gf args) w)
    {encs : α → Array Value} {Kp : World → World → Prop} {V : List α → α → World → Prop} {S : List α → Prop} (hseq : ∀ W, w.grownBy W none → SeqV F (n - 1) P gf lb encs Kp V S W)
    (hKt : ∀ {A B C : World}, Kp A B → Kp B C → Kp A C) (hKb : ∀ (W : World) (l : Nat) (o' : Obj), w.heap.size ≤ l → Kp W (W.putObj l o')) (hKg : ∀ (W W' : World), w.heap.size ≤ W.heap.size → W.grownBy W' none → Kp W W') (hps : ∀ x, (encs x).size = ps.size)
    (hV : ∀ pre, OwnFrom w.heap.size (V pre))
    (I : List α → World → Prop) (Ix : Code → List α → World → Prop) (hI : OwnFrom w.heap.size I) (hIx : ∀ c, OwnFrom w.heap.size (Ix c)) (h0 : I [] w) (Ax : α → Act → World → Prop) (hAx : ∀ x, OwnFrom w.heap.size (Ax x))
    (hassign : ∀ (l : Nat) (pre : List α) (x : α) (W : World) (K : Act → World → Prop), I pre W → V pre x W → (∀ a' W', W.grownBy W' none → Ax x a' W' → K a' W') →
      assign.wpIn (F.inRound l) (n - 1 - 1) P (Exit.then K (fun _ _ _ => False)) { tmps := (ps.zip (encs x)).foldl (fun t (p, v) => t.setIfInBounds p v) a.tmps, defers := [] } W)
    (hbody : ∀ (l : Nat) (pre : List α) (x : α) (a' : Act) (W : World), I pre W → V pre x W → Ax x a' W → body.wpIn (F.inRound l) (n - 1 - 1) P (ownPostG w.heap.size Kp I Ix (pre ++ [x]) W) a' W)
    (hdone : ∀ (D : Nat) (xs : List α) (W : World), w.heap.size ≤ D → S xs → I xs W → W.heap[D]? = some (.deferred (some [])) → Q .normal { a with defers := { target := .collected D, args := #[] } :: a.defers } W)
    (hstop : ∀ (D : Nat) (c : Code) (pre : List α) (W : World), w.heap.size ≤ D → Ix c pre W → W.heap[D]? = some (.deferred (some [])) → c.wpIn F n P Q { a with defers := { target := .collected D, args := #[] } :: a.defers } W) :
    (Code.rangeFunc g ps assign body).wpIn F n P Q a w := by
  refine wpIn_rangeFunc fun fn hfn => ?_
  rw [hro]
  -- the loop's record R at block w.heap.size + 1, the deferred calls' block at w.heap.size
  generalize hR : (fun (st : LoopState) (pe : Option Code) => ({ state := st, pending := pe, fn, tmps := a.tmps, params := ps, assign, body, defers := w.heap.size } : Loop)) = R
  have hRs : ∀ st pe, R st pe = { state := st, pending := pe, fn, tmps := a.tmps, params := ps, assign, body, defers := w.heap.size } := fun st pe => by rw [← hR]
  generalize hW1 : (w.alloc (.deferred (some []))).alloc (.loop (R .ready none)) = W1
  have hL1 : W1.heap[w.heap.size + 1]? = some (.loop (R .ready none)) := by
    have := World.alloc_heap_new (w.alloc (.deferred (some []))) (.loop (R .ready none))
    rw [← hW1]
    rwa [World.size_alloc] at this
  have hD1 : W1.heap[w.heap.size]? = some (.deferred (some [])) := by
    rw [← hW1]
    exact (Below.heap_alloc _ _ _ (by simp)).trans (World.alloc_heap_new w _)
  have hgr : w.grownBy W1 none := by
    rw [← hW1]
    have k1 := World.grownBy_alloc w (.deferred (some [])) none
    have k2 := World.grownBy_alloc (w.alloc (.deferred (some []))) (.loop (R .ready none)) none
    exact ⟨k2.os.trans k1.os, k2.tape.trans k1.tape, k2.output.trans k1.output, Nat.le_trans k1.size k2.size, fun i hi hne => (k2.block i (Nat.lt_of_lt_of_le hi k1.size) hne).trans (k1.block i hi hne)⟩
  have keeps : ∀ {A B : World} {k : Nat} {o : Obj}, A.grownBy B none → A.heap[k]? = some o → B.heap[k]? = some o := fun hAB hk =>
    (hAB.block _ (Array.getElem?_eq_some_iff.1 hk).1 (fun e => by cases e)).trans hk
  refine ⟨w.heap.size + 1, [{ target := .collected w.heap.size, args := #[] }], W1, { target := .fn (.func gf) lb, args := #[.func (.yield (w.heap.size + 1)) #[] #[]] }, W1, gf,
    #[.func (.yield (w.heap.size + 1)) #[] #[]] ++ lb, W1, ?_, ?_, ?_, ?_, fun _ => h1, ?_⟩
  · rw [← hW1, hRs]; exact run_enterLoop_outer _ _ _ _ _
  · simp only [resolve, hg]
    simp [go_sem]
  · intro f' hf'; simp [Target.leads] at hf'; subst hf'; exact hFg
  · simp [invoke, go_sem, eg]
  · refine (hseq W1 hgr (w.heap.size + 1)
      (fun pre W => I pre W ∧ W.heap[w.heap.size + 1]? = some (.loop (R .ready none)) ∧ W.heap[w.heap.size]? = some (.deferred (some [])))
      (fun pre W => ∃ c, Ix c pre W ∧ W.heap[w.heap.size + 1]? = some (.loop (R .done (some c))) ∧ W.heap[w.heap.size]? = some (.deferred (some [])))
      (fun s A B hs hAB => ⟨OwnFrom.stands hI s A B hs.1 hAB, keeps hAB hs.2.1, keeps hAB hs.2.2⟩)
      (fun s A B hs hAB => by
        obtain ⟨c, hc, hl, hk⟩ := hs
        exact ⟨c, OwnFrom.stands (hIx c) s A B hc hAB, keeps hAB hl, keeps hAB hk⟩)
      ?_ ⟨OwnFrom.stands hI [] w W1 h0 hgr, hL1, hD1⟩).mono ?_
    · rintro pre x W0 ⟨hi0, hl0, hk0⟩ hv0
      have hy := run_yield (P := P) (args := encs x) hl0 (by rw [hRs]; exact hps x)
      rw [hRs] at hy
      refine ⟨fn, _, assign, body, hy, roundIn_of_wpIn hfn (hassign _ pre x W0 _ hi0 hv0 ?_)⟩
      intro a' W hW hax
      have hi := OwnFrom.stands hI pre W0 W hi0 hW
      have hv := OwnFrom.stands (hV pre) x W0 W hv0 hW
      have hl := keeps hW hl0
      have hk := keeps hW hk0
      have hlt : w.heap.size + 1 < W.heap.size := (Array.getElem?_eq_some_iff.1 hl).1
      have hKW : Kp W0 W := hKg W0 W (by have := (Array.getElem?_eq_some_iff.1 hl0).1; omega) hW
      refine ⟨_, run_beginRound hl (by rw [hRs]), ?_⟩
      generalize hBz : (Obj.loop { R .ready none with state := .busy }) = busy
      have hl2 : (W.putObj (w.heap.size + 1) busy).heap[w.heap.size + 1]? = some busy := World.putObj_heap_same hlt
      have hk2 : (W.putObj (w.heap.size + 1) busy).heap[w.heap.size]? = some (.deferred (some [])) := (World.putObj_heap_other (by omega)).trans hk
      have hnc : busy.isCells = false := by rw [← hBz]; rfl
      refine wpIn_mono (hbody _ pre x a' _ (hI.putObj _ hi (by omega) hl rfl) ((hV pre).putObj _ hv (by omega) hl rfl) ((hAx x).putObj _ hax (by omega) hl rfl)) ?_
      have fin : ∀ (jump : Option Code) (W3 : World), KeepsFrom w.heap.size (W.putObj (w.heap.size + 1) busy) W3 →
          (Instr.endRound (w.heap.size + 1) jump).run P W3 = .ok (.bool jump.isNone) (W3.putObj (w.heap.size + 1) (.loop (R (if jump.isNone then .ready else .done) jump))) ∧
          W3.heap[w.heap.size + 1]? = some busy ∧
          (W3.putObj (w.heap.size + 1) (.loop (R (if jump.isNone then .ready else .done) jump))).heap[w.heap.size + 1]? = some (.loop (R (if jump.isNone then .ready else .done) jump)) ∧
          (W3.putObj (w.heap.size + 1) (.loop (R (if jump.isNone then .ready else .done) jump))).heap[w.heap.size]? = some (.deferred (some [])) := by
        intro jump W3 hk3
        have hl3 := hk3.same _ _ (by omega) hl2 hnc
        have hrun := run_endRound (P := P) jump (by rw [← hBz] at hl3; exact hl3)
        rw [hRs] at hrun ⊢
        exact ⟨hrun, hl3, World.putObj_heap_same (Array.getElem?_eq_some_iff.1 hl3).1, (World.putObj_heap_other (by omega)).trans (hk3.same _ _ (Nat.le_refl _) hk2 rfl)⟩
      have hleft : ∀ (c : Code) (W3 : World), KeepsFrom w.heap.size (W.putObj (w.heap.size + 1) busy) W3 → Ix c (pre ++ [x]) W3 →
          ∃ v W4, (Instr.endRound (w.heap.size + 1) (some c)).run P W3 = .ok v W4 ∧
            ((Ending.returned v = .returned (.bool true) ∧ (I (pre ++ [x]) W4 ∧ W4.heap[w.heap.size + 1]? = some (.loop (R .ready none)) ∧ W4.heap[w.heap.size]? = some (.deferred (some []))) ∧ Kp W0 W4) ∨
             (Ending.returned v = .returned (.bool false) ∧ ∃ c, Ix c (pre ++ [x]) W4 ∧ W4.heap[w.heap.size + 1]? = some (.loop (R .done (some c))) ∧ W4.heap[w.heap.size]? = some (.deferred (some [])))) := by
        intro c W3 hk3 hi3
        obtain ⟨hr, hl3, hl4, hk4⟩ := fin (some c) W3 hk3
        exact ⟨_, _, hr, .inr ⟨rfl, c, (hIx c).putObj _ hi3 (by omega) hl3 hnc, hl4, hk4⟩⟩
      rintro e a3 W3 hp
      cases e with
      | normal =>
        obtain ⟨hk3, hkp3, hi3⟩ := hp
        obtain ⟨hr, hl3, hl4, hk4⟩ := fin none W3 hk3
        exact ⟨_, _, hr, .inl ⟨rfl, ⟨hI.putObj _ hi3 (by omega) hl3 hnc, hl4, hk4⟩, hKt hKW (hKt (hKt (hKb _ _ _ (by omega)) hkp3) (hKb _ _ _ (by omega)))⟩⟩
      | ret => exact hleft .ret W3 hp.1 hp.2
      | exit id => exact hleft (.exit id) W3 hp.1 hp.2
      | goto t => exact hleft (.goto t) W3 hp.1 hp.2
      | panic ch => exact hp.elim
      | outgrown => exact hp.elim
    · rintro e W2 ⟨⟨v, rfl⟩, (⟨xs, hS, hi, hl, hk⟩ | ⟨pre, c, hi, hl, hk⟩)⟩
      · exact ⟨none, _, by have := run_endLoop (P := P) hl (by rw [hRs]; simp); rw [hRs] at this; exact this, hdone _ xs _ (Nat.le_refl _) hS (hI.putObj _ hi (by omega) hl rfl) ((World.putObj_heap_other (by omega)).trans hk)⟩
      · exact ⟨some c, _, by have := run_endLoop (P := P) hl (by rw [hRs]; simp); rw [hRs] at this; exact this, hstop _ c pre _ (Nat.le_refl _) ((hIx c).putObj _ hi (by omega) hl rfl) ((World.putObj_heap_other (by omega)).trans hk)⟩
end Go.Proofs.YtcbiloomnkbalaaGreatDoor
/- The index's iterator, each element told by its place. -/
namespace Go.Proofs.YtcbiloomnkbalaaGreatDoor.Ix
open Go.RowKit Go.Shelf
attribute [local go_sem ↓] Go.wp_at_zero Go.wp_at_succ
set_option maxRecDepth 100000 in
set_option maxHeartbeats 1000000 in
theorem it_genV (Kp : World → World → Prop) (Iv : World → Prop) (n : Nat) (hn : 1 ≤ n) (l B : Nat) (so : Option Addr) (cap : Nat) (X : List (Nat × Int)) (hX : X.length ≤ 65536) (J Jx : List (Nat × Int) → World → Prop)
    (hY : ∀ pre (x : Nat × Int) W, J pre W → pre ++ [x] <+: X → YieldAt Fence.wide (n - 1) Tryz.prog l (encE x) W fun e W' =>
      (e = .returned (.bool true) ∧ J (pre ++ [x]) W' ∧ Kp W W') ∨ (e = .returned (.bool false) ∧ Jx (pre ++ [x]) W'))
    (hIv : ∀ W, Iv W → ItE W B so cap X) (hkp : ∀ W W', Kp W W' → Iv W → Iv W') (hga : ∀ W W' : World, W.grownBy W' none → Iv W → Iv W') (hJa : ∀ pre (W W' : World), W.grownBy W' none → J pre W → J pre W') (W : World) (hI : Iv W) (h0 : J [] W) :
    CallsIn Fence.wide n Tryz.prog 104 #[.func (.yield l) #[] #[], .pointer (some ⟨B, 0, none⟩)] W fun e W' => (∃ v, e = .returned v) ∧
      ((∃ ys, ys = X ∧ J ys W') ∨ (∃ pre, Jx pre W')) := by
  refine callsIn_of_wp Tryz.func104 rfl trivial ?_ rfl
  simp only [Tryz.ntmps104, List.size_toArray, List.length_cons, List.length_nil, Nat.reduceAdd, Nat.reduceSub, Array.replicate_succ, Array.replicate_zero, List.push_toArray, List.append_toArray, List.nil_append, List.cons_append]
  have hc := cell_row (hIv _ hI).box 0
  simp at hc
  gi_wp2
  gi_loopw [7] (fun q wr => ∃ i : Nat, q = .int .i64 (i : Int) ∧ i ≤ X.length ∧ Hid (J (X.take i) wr ∧ Iv wr)) (fun q _ => leftE X.length q)
  case atStart => exact ⟨0, rfl, Nat.zero_le _, by rw [List.take_zero]; exact ⟨h0, hI⟩⟩
  case round =>
    obtain ⟨i, rfl, hi, HJ⟩ := hrel
    clear hc
    by_cases hlt : i < X.length
    · obtain ⟨g, rfl, c0, c1⟩ := (hIv _ HJ.out.2).row i hlt
      have hle := (hIv _ HJ.out.2).le
      have ga := World.grownBy_alloc wr (.cells #[.int .u32 ((en X i).1 : Int), .int .i64 (en X i).2] 146) none
      obtain ⟨fn, tmps, assign, body, hy, hR⟩ := hY (X.take i) (en X i) _ (hJa _ _ _ ga HJ.out.1) (by rw [take_en hlt]; exact List.take_prefix _ _)
      have nb : (wr.alloc (.cells #[.int .u32 ((en X i).1 : Int), .int .i64 (en X i).2] 146)).heap[wr.heap.size]? = some (.cells [Value.int .u32 ((en X i).1 : Int), .int .i64 (en X i).2].toArray 146 (0, 0)) := heap_alloc_new wr _
      have HT := hide (take_en hlt)
      rw [HT.out] at hR
      have HI2 := hide (hga _ _ ga HJ.out.2)
      clear ga nb hi
      unfold encE at hy
      generalize (en X i).1 = a at *
      generalize (en X i).2 = b at *
      have hil : ((i : Int) < (X.length : Int)) = True := by simp; omega
      gi_wp2
      refine hR.mono ?_
      rintro e W3 (⟨rfl, hJ3, hk3⟩ | ⟨rfl, hJx3⟩)
      · have H3 := hide (And.intro hJ3 (hkp _ _ hk3 HI2.out))
        clear hJ3 hk3
        have hw1 : IntKind.i64.wrap ((i : Int) + 1) = (i : Int) + 1 := by rw [IntKind.wrap_i64]; omega
        gi_wp2
        go_roundw
        case rel => exact ⟨i + 1, by simp, by omega, H3.out⟩
        case measure =>
          have e1 := leftE_nat X.length (i + 1)
          have e2 := leftE_nat X.length i
          rw [show ((i : Int) + 1) = (((i + 1 : Nat)) : Int) by omega, e1, e2]
          omega
      · gi_wp2
        refine bodyPost_ret (results_none rfl _ _ _) rfl ?_
        exact ⟨⟨_, rfl⟩, .inr ⟨_, hJx3⟩⟩
    · have hil : decide ((i : Int) < (X.length : Int)) = false := by simp; omega
      obtain rfl : i = X.length := by omega
      gi_wp2
      go_end0
      exact ⟨⟨_, rfl⟩, .inl ⟨_, rfl, by have := HJ.out.1; rw [List.take_length] at this; exact this⟩⟩
/-- What it does from any world in which its blocks stand. -/
theorem ix_seqV (Kp : World → World → Prop) (n : Nat) (hn : 1 ≤ n) (B : Nat) (so : Option Addr) (cap : Nat) (X : List (Nat × Int)) (hX : X.length ≤ 65536) (hkp : ∀ W W', Kp W W' → ItE W B so cap X → ItE W' B so cap X) (W : World) (hI : ItE W B so cap X) :
    SeqV Fence.wide n Tryz.prog 104 #[.pointer (some ⟨B, 0, none⟩)] encE Kp (fun pre x _ => pre ++ [x] <+: X) (fun ys => ys = X) W := fun l J Jx hJ _hJx hY h0 =>
  it_genV Kp (fun W => ItE W B so cap X) n hn l B so cap X hX J Jx hY (fun _ h => h) hkp (fun _ _ g h => h.grown g) (fun pre A A' g h => hJ pre A A' h g) W hI h0
end Go.Proofs.YtcbiloomnkbalaaGreatDoor.Ix
