/- Texts joined: IxIi, IxIj, Rv, IxIv, BkG. -/
import Derived.Deep.CutRange
import Derived.Deep.DeepCutAuto
import Derived.RangeFuncNested
import Derived.RangeFuncBound
import Derived.RangeFuncCalls
import Derived.RangeFuncLeaves
import Derived.RangeFuncBox
import Derived.Shelf.Abstract
import Derived.Shelf.RegionOpen
import Derived.OwnWalkIn
import Derived.TacticsInMore
import Derived.LoopNIn
import Derived.LoopIn
import Derived.Shelf.SlSortCmp.WholeK
import Derived.Ground.SlsfProg
import Derived.Shelf.SlSortCmp.NoneTotal
import Derived.Sort.OwnSorted
import Derived.Test.YtjfhilignbeboaaGreatDoorJrAj
import Derived.OrdersIn
import Derived.OrdersHeld
import Derived.Deep.RegionHeld
import Derived.Deep.Quiet
import Derived.Test.YtjfhilignbeboaaGreatDoorJrAi
/- All of an index. -/
namespace Go.Proofs.YtjfhilignbeboaaGreatDoor.Ix
open Go.RowKit Go.Shelf
attribute [local go_sem ↓] Go.wp_at_zero Go.wp_at_succ
theorem Tryz.info192 : (Tryz.prog.info? 192).map (fun i => (i.zero, i.size, i.bytes)) = some (some (.agg #[.int .u32 0, .int .i64 0]), 2, 16) := by kernel_rfl
def its (S : List (Option (Nat × Int))) : List (Nat × Int) := S.filterMap id
theorem its_take {S : List (Option (Nat × Int))} {i : Nat} (h : i < S.length) : its (S.take (i + 1)) = its (S.take i) ++ (sl S i).toList := by
  unfold its sl
  rw [List.take_add_one, List.filterMap_append, List.getElem?_eq_getElem h]
  simp
  cases S[i] <;> simp
theorem its_len (S : List (Option (Nat × Int))) : (its S).length ≤ S.length := List.length_filterMap_le _ _
theorem two_cells (W : World) (a b : Value) (t : TypeId) : ∀ j u, [a, b][j]? = some u → (W.alloc (.cells #[a, b] t)).cell? ((⟨W.heap.size, 0, none⟩ : Addr).add j) = some u := by
  intro j u hu
  rw [Addr.add_lit, Nat.zero_add, cell_row (heap_alloc_new W (.cells [a, b].toArray t))]
  exact hu
set_option maxRecDepth 20000 in
set_option maxHeartbeats 2000000 in
theorem items_at {w : World} {x g n m c st : Nat} {S : List (Option (Nat × Int))} (h : IxR w x g n m c st S) : Calls Tryz.prog 150 #[.pointer (some ⟨x, 0, none⟩)] w fun e w' => ∃ so cap, e = .returned (.slice so (its S).length cap) ∧ w'.ownsRow w.heap.size 192 2 (.slice so (its S).length cap) (its S).length (icells (its S)) ∧ w.grownBy w' none := by
  obtain ⟨i0, hi0, hz0, hz1, hz2⟩ := info_parts Tryz.info192
  have HI0 := hide (And.intro hi0 (And.intro hz0 (And.intro hz1 hz2)))
  have hno := none_at h
  obtain ⟨-, -, -, -, c4⟩ := h.cells
  have hn8 := h.most
  have HH := hide h
  clear h hi0 hz0 hz1 hz2
  go_enter Tryz.func150, Tryz.ntmps150
  go_wp2_with fail
  refine hno.mono ?_
  clear hno
  rintro e w1 ⟨rfl, hw1⟩
  obtain rfl := hw1.symm
  go_wp2
  go_loopg [3, 13] n (fun q v3 v13 wr => ∃ i : Nat, v13 = .int .i64 (i : Int) ∧ Hid (q = n - i ∧ i ≤ n ∧ w.grownBy wr none ∧ wr.ownsRow w.heap.size 192 2 v3 (its (S.take i)).length (icells (its (S.take i)))))
  case atStart => exact ⟨0, rfl, rfl, Nat.zero_le _, grown_refl _ _, World.ownsRow_nil _ _ _ _⟩
  case round =>
    obtain ⟨i, rfl, HR⟩ := hrel
    by_cases hlt : i < n
    · have hI := HH.out.then HR.out.2.2.1
      obtain ⟨d0, d1, d2⟩ := hI.slot hlt
      have hlS : i < S.length := by rw [hI.len]; exact hlt
      have htk := its_take hlS
      have hle := its_len (S.take i)
      have hlt' : ((i : Int) < (n : Int)) = True := by simp; omega
      have hwr : IntKind.i64.wrap ((i : Int) + 1) = ((i : Int) + 1) := by rw [IntKind.wrap_i64]; omega
      have hle2 : (its (S.take i)).length ≤ 8192 := by have := List.length_take_le i S; omega
      cases hy : sl S i with
      | none =>
        rw [hy] at d0 d1 d2 htk
        simp only [Option.isSome] at d0
        have HT := hide htk
        clear htk hI hlS hle
        generalize idN none = z1 at *
        generalize vlN none = z2 at *
        go_wp2
        go_roundg (gk - 1)
        case rel => exact ⟨i + 1, by simp, by have := HR.out.1; omega, by omega, grown_trans HR.out.2.2.1 (World.grownBy_alloc wr _ none), by rw [HT.out]; simp only [Option.toList, List.append_nil]; exact HR.out.2.2.2.alloc _⟩
        case measure => have := HR.out.1; omega
      | some y =>
        rw [hy] at d0 d1 d2 htk
        simp only [Option.isSome] at d0
        rw [show idN (some y) = y.1 from rfl] at d1
        rw [show vlN (some y) = y.2 from rfl] at d2
        have HT := hide htk
        clear htk hI hlS
        obtain ⟨y1, hy1⟩ : ∃ y1, y1 = y.1 := ⟨_, rfl⟩
        obtain ⟨y2, hy2⟩ : ∃ y2, y2 = y.2 := ⟨_, rfl⟩
        rw [← hy1] at d1
        rw [← hy2] at d2
        have HY := hide (And.intro hy1 hy2)
        clear hy1 hy2 hle
        have hA := World.grownBy_alloc wr (.cells #[.bool true, .int .u32 (y1 : Int), .int .i64 y2] 194) none
        have hB := World.grownBy_alloc (wr.alloc (.cells #[.bool true, .int .u32 (y1 : Int), .int .i64 y2] 194)) (.cells #[.int .u32 (y1 : Int), .int .i64 y2] 192) none
        have hgB := hide (grown_trans HR.out.2.2.1 (grown_trans hA hB))
        clear hA hB
        have hcs := two_cells (wr.alloc (.cells #[.bool true, .int .u32 (y1 : Int), .int .i64 y2] 194)) (.int .u32 (y1 : Int)) (.int .i64 y2) 192
        have HCS := hide hcs
        clear hcs
        go_wp2_with (at_builtin; refine wpList_append_own _ rfl (.tmp 19) (.tmp 22) 198 rfl w.heap.size 192 i0 (.agg #[.int .u32 0, .int .i64 0]) 2 16 Tryz.underlying198 HI0.out.1 HI0.out.2.1 HI0.out.2.2.1 HI0.out.2.2.2 rfl (by decide) u3 (its (S.take i)).length (icells (its (S.take i))) rfl ((HR.out.2.2.2.alloc _).alloc _) ⟨wr.heap.size + 1, 0, none⟩ 1 1 [.int .u32 (y1 : Int), .int .i64 y2] rfl rfl (by have := HCS.out; rw [World.size_alloc] at this; exact this) (by simp [Value.oneCell']) (by unfold maxLen; omega) (by omega) hgB.out.size ?_)
        intro v' w' ho hg hv
        clear hv
        have H := hide (And.intro ho (grown_then hgB.out hg (fun j e => Or.inl (HR.out.2.2.2.lt j e).1)))
        clear ho hg
        go_wp2
        go_roundg (gk - 1)
        case rel => exact ⟨i + 1, by simp, by have := HR.out.1; omega, by omega, H.out.2, by rw [HT.out]; simp only [Option.toList, List.length_append, List.length_cons, List.length_nil]; rw [icells_snoc, ← HY.out.1, ← HY.out.2]; exact H.out.1⟩
        case measure => have := HR.out.1; omega
    · have hlt' : ((i : Int) < (n : Int)) = False := by simp; omega
      obtain rfl : i = n := by have := HR.out.2.1; omega
      have hr := HR.out.2.2.2
      rw [show S.take i = S by rw [← HH.out.len]; exact List.take_length] at hr
      obtain ⟨so, cap, rfl, -⟩ := own_form hr
      have H := hide hr
      clear hr
      go_wp2
      go_ret
      exact ⟨so, cap, rfl, H.out, HR.out.2.2.1⟩
end Go.Proofs.YtjfhilignbeboaaGreatDoor.Ix
/- All of an index: the iterator's value. -/
namespace Go.Proofs.YtjfhilignbeboaaGreatDoor.Ix
open Go.RowKit Go.Shelf
attribute [local go_sem ↓] Go.wp_at_zero Go.wp_at_succ
/-- What goes through the items M, its blocks from B0 on. -/
def AllV (w : World) (B0 : Nat) (v : Value) (M : List (Nat × Int)) : Prop := ∃ B so cap, v = .func (.func 154) #[] #[.pointer (some ⟨B, 0, none⟩)] ∧ ItE w B so cap M ∧ B0 ≤ B ∧ (∀ a, so = some a → B0 ≤ a.block)
theorem all_of {w : World} {arg : Value} {E X : List (Nat × Int)} (hit : Calls Tryz.prog 150 #[arg] w fun e w' => ∃ so cap, e = .returned (.slice so E.length cap) ∧ w'.ownsRow w.heap.size 192 2 (.slice so E.length cap) E.length (icells E) ∧ w.grownBy w' none) (hE : E.length ≤ 65536) (hX : X.Perm E) (hA : Asc X) :
    Calls Tryz.prog 108 #[arg] w fun e w' => ∃ v, e = .returned v ∧ AllV w' w.heap.size v X ∧ w.grownBy w' none := by
  have hXl : X.length = E.length := hX.length_eq
  have hmf : ∀ (fn : Fn) (first cap : Array Value) (w : World), (Instr.makeFunc fn first cap).run Tryz.prog w = .ok (.func fn first cap) w := fun _ _ _ _ => rfl
  have HE := hide (And.intro hE (And.intro hX (And.intro hA hXl)))
  clear hE hX hA hXl
  go_enter Tryz.func108, Tryz.ntmps108
  go_wp2_with fail
  refine hit.mono ?_
  clear hit
  rintro e w1 ⟨so, cap, rfl, hr1, g1⟩
  obtain ⟨w2, hw2⟩ : ∃ w2, w2 = w1.alloc (.cells #[.slice so E.length cap] 198) := ⟨_, rfl⟩
  have g2 : w1.grownBy w2 none := by rw [hw2]; exact World.grownBy_alloc w1 _ none
  have hB2 : w2.heap[w1.heap.size]? = some (.cells [Value.slice so E.length cap].toArray 198 (0, 0)) := by rw [hw2]; exact heap_alloc_new w1 _
  have hr2 : w2.ownsRow w.heap.size 192 2 (.slice so E.length cap) E.length (icells E) := by rw [hw2]; exact hr1.alloc _
  have hso := sort_row hr2 HE.out.1 HE.out.2.1 HE.out.2.2.1
  rw [hw2] at hso
  have H2 := hide (And.intro hw2 (And.intro g2 (And.intro hB2 (And.intro hr2 (And.intro hr1 g1)))))
  clear hw2 g2 hB2 hr2 hr1 g1
  go_wp2_with fail
  refine hso.mono ?_
  clear hso
  rintro e w4 ⟨rfl, g4, hc4⟩
  rw [← H2.out.1] at g4
  have H4 := hide (And.intro g4 hc4)
  clear g4 hc4
  go_wp2
  go_ret
  have hsz := H2.out.2.2.2.2.2.size
  have hblk : ∀ g, (Value.slice so E.length cap).ownBlock = some g → w.heap.size ≤ g ∧ g ≠ w1.heap.size := fun g hg => by
    obtain ⟨h1, cur, hc⟩ := own_block H2.out.2.2.2.2.1 hg
    exact ⟨h1, fun e => by have := row_lt hc; omega⟩
  refine ⟨_, rfl, ⟨w1.heap.size, so, cap, rfl, ⟨?_, ?_, H4.out.2⟩, hsz, fun a ha => (hblk a.block (by rw [ha]; rfl)).1⟩, ?_⟩
  · rw [HE.out.2.2.2]
    exact (H4.out.1.block _ (row_lt H2.out.2.2.1) (fun e => (hblk _ e.symm).2 rfl)).trans H2.out.2.2.1
  · obtain ⟨vo, c2, hv, hle⟩ := own_form H2.out.2.2.2.1
    cases hv
    rw [HE.out.2.2.2]
    exact hle
  · exact grown_then (grown_trans H2.out.2.2.2.2.2 H2.out.2.1) H4.out.1 (fun j e => Or.inl (hblk j e).1)
theorem all_io {w : World} {p : Ip} {M : List (Nat × Int)} {lo : Bool} (h : Io w p M lo) :
    Calls Tryz.prog 108 #[.pointer (some ⟨p.x, 0, none⟩)] w fun e w' => ∃ v, e = .returned v ∧ AllV w' w.heap.size v M ∧ w.grownBy w' none := by
  obtain ⟨st, S, h1, _⟩ := h
  have hp := h1.inv.perm
  have hl := hp.length_eq
  exact all_of (items_at h1.at_) (by have := h1.full; have := h1.m2; unfold its; omega) hp.symm h1.inv.asc
/-- No index: none, or one that New did not answer. -/
def NoIx (w : World) (v : Value) : Prop := v = .pointer none ∨ ∃ x, v = .pointer (some ⟨x, 0, none⟩) ∧ w.cell? ⟨x, 0, none⟩ = some (.pointer none)
theorem NoIx.then {w w' : World} {v : Value} (h : NoIx w v) (g : w.grownBy w' none) : NoIx w' v := by
  rcases h with h | ⟨x, h1, h2⟩
  · exact .inl h
  · exact .inr ⟨x, h1, g.cell h2 (by simp)⟩
set_option maxRecDepth 20000 in
theorem none_no {w : World} {v : Value} (h : NoIx w v) : Calls Tryz.prog 119 #[v] w fun e w' => e = .returned (.bool true) ∧ w' = w := by
  rcases h with rfl | ⟨x, rfl, c0⟩
  · go_enter Tryz.func119, Tryz.ntmps119
    go_wp2
    go_ret
    exact ⟨rfl, rfl⟩
  · have hne : ∀ w, (binOp .neq 41 (.pointer none) (.pointer (some ⟨x, 0, none⟩))).run Tryz.prog w = .ok (.bool true) w := fun w => by kernel_rfl
    go_enter Tryz.func119, Tryz.ntmps119
    go_wp2
    go_ret
    exact ⟨rfl, rfl⟩
theorem items_no {w : World} {v : Value} (h : NoIx w v) : Calls Tryz.prog 150 #[v] w fun e w' => ∃ so cap, e = .returned (.slice so ([] : List (Nat × Int)).length cap) ∧ w'.ownsRow w.heap.size 192 2 (.slice so ([] : List (Nat × Int)).length cap) ([] : List (Nat × Int)).length (icells []) ∧ w.grownBy w' none := by
  have hno := none_no h
  clear h
  go_enter Tryz.func150, Tryz.ntmps150
  go_wp2_with fail
  refine hno.mono ?_
  clear hno
  rintro e w1 ⟨rfl, hw1⟩
  obtain rfl := hw1.symm
  go_wp2
  go_ret
  exact ⟨none, 0, rfl, World.ownsRow_nil _ _ _ _, grown_refl _ _⟩
theorem all_no {w : World} {v : Value} (h : NoIx w v) :
    Calls Tryz.prog 108 #[v] w fun e w' => ∃ v, e = .returned v ∧ AllV w' w.heap.size v [] ∧ w.grownBy w' none :=
  all_of (items_no h) (by simp) (List.Perm.refl _) List.Pairwise.nil
end Go.Proofs.YtjfhilignbeboaaGreatDoor.Ix
/- A range over a function whose elements lead to memory: what is so of an element when it is handed on is told to the loop's body. -/
namespace Go.Proofs.YtjfhilignbeboaaGreatDoor
open Go.RowKit

/-- New blocks alone leave it so. -/
def Stands {β : Type} (J : β → World → Prop) : Prop := ∀ s A B, J s A → A.grownBy B none → J s B

/-- What the iterator g does from W on: it hands on elements x, each with V pre x in the world in which it is handed on (pre: those ahead of it). -/
def SeqV {α : Type} (F : Fence) (n : Nat) (P : Program) (g : Nat) (lb : Array Value) (encs : α → Array Value) (Kp : World → World → Prop) (V : List α → α → World → Prop) (S : List α → Prop) (W : World) : Prop :=
  ∀ (l : Nat) (J Jx : List α → World → Prop), Stands J → Stands Jx →
    (∀ pre x W1, J pre W1 → V pre x W1 → YieldAt F (n - 1) P l (encs x) W1 fun e W' =>
      (e = .returned (.bool true) ∧ J (pre ++ [x]) W' ∧ Kp W1 W') ∨ (e = .returned (.bool false) ∧ Jx (pre ++ [x]) W')) →
    J [] W →
    CallsIn F n P g (#[.func (.yield l) #[] #[]] ++ lb) W fun e W' => (∃ v, e = .returned v) ∧ ((∃ xs, S xs ∧ J xs W') ∨ (∃ pre, Jx pre W'))

theorem OwnFrom.stands {β : Type} {B : Nat} {I : β → World → Prop} (h : OwnFrom B I) : Stands I := fun s A C hs hg => h s A C none hs hg (fun r e => by cases e)

variable {F : Fence} {n : Nat} {P : Program}

theorem wpIn_range_V {α : Type} {g : Operand} {ps : Array Tmp} {assign body : Code} {Q : Exit → Act → World → Prop} {a : Act} {w : World}
    (hro : F.round = none) (h1 : 1 ≤ n) {gf : Nat} {lb : Array Value} (hg : a.eval g = .func (.func gf) #[] lb) (hFg : F.fn gf) (eg : ∀ args w, (callFunc gf args).run P w = .ok (.enter gf args) w)
    {encs : α → Array Value} {Kp : World → World → Prop} {V : List α → α → World → Prop} {S : List α → Prop} (hseq : ∀ W, w.grownBy W none → SeqV F (n - 1) P gf lb encs Kp V S W)
    (hKt : ∀ {A B C : World}, Kp A B → Kp B C → Kp A C) (hKb : ∀ (W : World) (l : Nat) (o' : Obj), w.heap.size ≤ l → Kp W (W.putObj l o')) (hKg : ∀ (W W' : World), w.heap.size ≤ W.heap.size → W.grownBy W' none → Kp W W') (hps : ∀ x, (encs x).size = ps.size)
    (hV : ∀ pre, OwnFrom w.heap.size (V pre))
    (I : List α → World → Prop) (Ix : Code → List α → World → Prop) (hI : OwnFrom w.heap.size I) (hIx : ∀ c, OwnFrom w.heap.size (Ix c)) (h0 : I [] w) (Ax : α → Act → World → Prop) (hAx : ∀ x, OwnFrom w.heap.size (Ax x))
    (hassign : ∀ (l : Nat) (pre : List α) (x : α) (W : World) (K : Act → World → Prop), I pre W → V pre x W → (∀ a' W', W.grownBy W' none → Ax x a' W' → K a' W') →
      assign.wpIn (F.inRound l) (n - 1 - 1) P (Exit.then K (fun _ _ _ => False)) { tmps := (ps.zip (encs x)).foldl (fun t (p, v) => t.setIfInBounds p v) a.tmps, defers := [] } W)
    (hbody : ∀ (l : Nat) (pre : List α) (x : α) (a' : Act) (W : World), I pre W → V pre x W → Ax x a' W → body.wpIn (F.inRound l) (n - 1 - 1) P (ownPostG w.heap.size Kp I Ix (pre ++ [x]) W) a' W)
    (hdone : ∀ (D : Nat) (xs : List α) (W : World), w.heap.size ≤ D → S xs → I xs W → W.heap[D]? = some (.deferred (some [])) → Q .normal { a with defers := { target := .collected D, args := #[] } :: a.defers } W)
    (hstop : ∀ (D : Nat) (c : Code) (pre : List α) (W : World), w.heap.size ≤ D → Ix c pre W → W.heap[D]? = some (.deferred (some [])) → c.wpIn F n P Q { a with defers := { target := .collected D, args := #[] } :: a.defers } W) :
    (Code.rangeFunc g ps assign body).wpIn F n P Q a w := by
  refine wpIn_rangeFunc fun fn hfn => ?_
  rw [hro]
  -- the loop's record R at block w.heap.size + 1, the deferred calls' block at w.heap.size
  generalize hR : (fun (st : LoopState) (pe : Option Code) => ({ state := st, pending := pe, fn, tmps := a.tmps, params := ps, assign, body, defers := w.heap.size } : Loop)) = R
  have hRs : ∀ st pe, R st pe = { state := st, pending := pe, fn, tmps := a.tmps, params := ps, assign, body, defers := w.heap.size } := fun st pe => by rw [← hR]
  generalize hW1 : (w.alloc (.deferred (some []))).alloc (.loop (R .ready none)) = W1
  have hL1 : W1.heap[w.heap.size + 1]? = some (.loop (R .ready none)) := by
    have := World.alloc_heap_new (w.alloc (.deferred (some []))) (.loop (R .ready none))
    rw [← hW1]
    rwa [World.size_alloc] at this
  have hD1 : W1.heap[w.heap.size]? = some (.deferred (some [])) := by
    rw [← hW1]
    exact (Below.heap_alloc _ _ _ (by simp)).trans (World.alloc_heap_new w _)
  have hgr : w.grownBy W1 none := by
    rw [← hW1]
    have k1 := World.grownBy_alloc w (.deferred (some [])) none
    have k2 := World.grownBy_alloc (w.alloc (.deferred (some []))) (.loop (R .ready none)) none
    exact ⟨k2.os.trans k1.os, k2.tape.trans k1.tape, k2.output.trans k1.output, Nat.le_trans k1.size k2.size, fun i hi hne => (k2.block i (Nat.lt_of_lt_of_le hi k1.size) hne).trans (k1.block i hi hne)⟩
  have keeps : ∀ {A B : World} {k : Nat} {o : Obj}, A.grownBy B none → A.heap[k]? = some o → B.heap[k]? = some o := fun hAB hk =>
    (hAB.block _ (Array.getElem?_eq_some_iff.1 hk).1 (fun e => by cases e)).trans hk
  refine ⟨w.heap.size + 1, [{ target := .collected w.heap.size, args := #[] }], W1, { target := .fn (.func gf) lb, args := #[.func (.yield (w.heap.size + 1)) #[] #[]] }, W1, gf,
    #[.func (.yield (w.heap.size + 1)) #[] #[]] ++ lb, W1, ?_, ?_, ?_, ?_, fun _ => h1, ?_⟩
  · rw [← hW1, hRs]; exact run_enterLoop_outer _ _ _ _ _
  · simp only [resolve, hg]
    simp [go_sem]
  · intro f' hf'; simp [Target.leads] at hf'; subst hf'; exact hFg
  · simp [invoke, go_sem, eg]
  · refine (hseq W1 hgr (w.heap.size + 1)
      (fun pre W => I pre W ∧ W.heap[w.heap.size + 1]? = some (.loop (R .ready none)) ∧ W.heap[w.heap.size]? = some (.deferred (some [])))
      (fun pre W => ∃ c, Ix c pre W ∧ W.heap[w.heap.size + 1]? = some (.loop (R .done (some c))) ∧ W.heap[w.heap.size]? = some (.deferred (some [])))
      (fun s A B hs hAB => ⟨OwnFrom.stands hI s A B hs.1 hAB, keeps hAB hs.2.1, keeps hAB hs.2.2⟩)
      (fun s A B hs hAB => by
        obtain ⟨c, hc, hl, hk⟩ := hs
        exact ⟨c, OwnFrom.stands (hIx c) s A B hc hAB, keeps hAB hl, keeps hAB hk⟩)
      ?_ ⟨OwnFrom.stands hI [] w W1 h0 hgr, hL1, hD1⟩).mono ?_
    · rintro pre x W0 ⟨hi0, hl0, hk0⟩ hv0
      have hy := run_yield (P := P) (args := encs x) hl0 (by rw [hRs]; exact hps x)
      rw [hRs] at hy
      refine ⟨fn, _, assign, body, hy, roundIn_of_wpIn hfn (hassign _ pre x W0 _ hi0 hv0 ?_)⟩
      intro a' W hW hax
      have hi := OwnFrom.stands hI pre W0 W hi0 hW
      have hv := OwnFrom.stands (hV pre) x W0 W hv0 hW
      have hl := keeps hW hl0
      have hk := keeps hW hk0
      have hlt : w.heap.size + 1 < W.heap.size := (Array.getElem?_eq_some_iff.1 hl).1
      have hKW : Kp W0 W := hKg W0 W (by have := (Array.getElem?_eq_some_iff.1 hl0).1; omega) hW
      refine ⟨_, run_beginRound hl (by rw [hRs]), ?_⟩
      generalize hBz : (Obj.loop { R .ready none with state := .busy }) = busy
      have hl2 : (W.putObj (w.heap.size + 1) busy).heap[w.heap.size + 1]? = some busy := World.putObj_heap_same hlt
      have hk2 : (W.putObj (w.heap.size + 1) busy).heap[w.heap.size]? = some (.deferred (some [])) := (World.putObj_heap_other (by omega)).trans hk
      have hnc : busy.isCells = false := by rw [← hBz]; rfl
      refine wpIn_mono (hbody _ pre x a' _ (hI.putObj _ hi (by omega) hl rfl) ((hV pre).putObj _ hv (by omega) hl rfl) ((hAx x).putObj _ hax (by omega) hl rfl)) ?_
      have fin : ∀ (jump : Option Code) (W3 : World), KeepsFrom w.heap.size (W.putObj (w.heap.size + 1) busy) W3 →
          (Instr.endRound (w.heap.size + 1) jump).run P W3 = .ok (.bool jump.isNone) (W3.putObj (w.heap.size + 1) (.loop (R (if jump.isNone then .ready else .done) jump))) ∧
          W3.heap[w.heap.size + 1]? = some busy ∧
          (W3.putObj (w.heap.size + 1) (.loop (R (if jump.isNone then .ready else .done) jump))).heap[w.heap.size + 1]? = some (.loop (R (if jump.isNone then .ready else .done) jump)) ∧
          (W3.putObj (w.heap.size + 1) (.loop (R (if jump.isNone then .ready else .done) jump))).heap[w.heap.size]? = some (.deferred (some [])) := by
        intro jump W3 hk3
        have hl3 := hk3.same _ _ (by omega) hl2 hnc
        have hrun := run_endRound (P := P) jump (by rw [← hBz] at hl3; exact hl3)
        rw [hRs] at hrun ⊢
        exact ⟨hrun, hl3, World.putObj_heap_same (Array.getElem?_eq_some_iff.1 hl3).1, (World.putObj_heap_other (by omega)).trans (hk3.same _ _ (Nat.le_refl _) hk2 rfl)⟩
      have hleft : ∀ (c : Code) (W3 : World), KeepsFrom w.heap.size (W.putObj (w.heap.size + 1) busy) W3 → Ix c (pre ++ [x]) W3 →
          ∃ v W4, (Instr.endRound (w.heap.size + 1) (some c)).run P W3 = .ok v W4 ∧
            ((Ending.returned v = .returned (.bool true) ∧ (I (pre ++ [x]) W4 ∧ W4.heap[w.heap.size + 1]? = some (.loop (R .ready none)) ∧ W4.heap[w.heap.size]? = some (.deferred (some []))) ∧ Kp W0 W4) ∨
             (Ending.returned v = .returned (.bool false) ∧ ∃ c, Ix c (pre ++ [x]) W4 ∧ W4.heap[w.heap.size + 1]? = some (.loop (R .done (some c))) ∧ W4.heap[w.heap.size]? = some (.deferred (some [])))) := by
        intro c W3 hk3 hi3
        obtain ⟨hr, hl3, hl4, hk4⟩ := fin (some c) W3 hk3
        exact ⟨_, _, hr, .inr ⟨rfl, c, (hIx c).putObj _ hi3 (by omega) hl3 hnc, hl4, hk4⟩⟩
      rintro e a3 W3 hp
      cases e with
      | normal =>
        obtain ⟨hk3, hkp3, hi3⟩ := hp
        obtain ⟨hr, hl3, hl4, hk4⟩ := fin none W3 hk3
        exact ⟨_, _, hr, .inl ⟨rfl, ⟨hI.putObj _ hi3 (by omega) hl3 hnc, hl4, hk4⟩, hKt hKW (hKt (hKt (hKb _ _ _ (by omega)) hkp3) (hKb _ _ _ (by omega)))⟩⟩
      | ret => exact hleft .ret W3 hp.1 hp.2
      | exit id => exact hleft (.exit id) W3 hp.1 hp.2
      | goto t => exact hleft (.goto t) W3 hp.1 hp.2
      | panic ch => exact hp.elim
      | outgrown => exact hp.elim
    · rintro e W2 ⟨⟨v, rfl⟩, (⟨xs, hS, hi, hl, hk⟩ | ⟨pre, c, hi, hl, hk⟩)⟩
      · exact ⟨none, _, by have := run_endLoop (P := P) hl (by rw [hRs]; simp); rw [hRs] at this; exact this, hdone _ xs _ (Nat.le_refl _) hS (hI.putObj _ hi (by omega) hl rfl) ((World.putObj_heap_other (by omega)).trans hk)⟩
      · exact ⟨some c, _, by have := run_endLoop (P := P) hl (by rw [hRs]; simp); rw [hRs] at this; exact this, hstop _ c pre _ (Nat.le_refl _) ((hIx c).putObj _ hi (by omega) hl rfl) ((World.putObj_heap_other (by omega)).trans hk)⟩
end Go.Proofs.YtjfhilignbeboaaGreatDoor
/- The index's iterator, each element told by its place. -/
namespace Go.Proofs.YtjfhilignbeboaaGreatDoor.Ix
open Go.RowKit Go.Shelf
attribute [local go_sem ↓] Go.wp_at_zero Go.wp_at_succ
set_option maxRecDepth 100000 in
set_option maxHeartbeats 1000000 in
theorem it_genV (Kp : World → World → Prop) (Iv : World → Prop) (n : Nat) (hn : 1 ≤ n) (l B : Nat) (so : Option Addr) (cap : Nat) (X : List (Nat × Int)) (hX : X.length ≤ 65536) (J Jx : List (Nat × Int) → World → Prop)
    (hY : ∀ pre (x : Nat × Int) W, J pre W → pre ++ [x] <+: X → YieldAt Fence.wide (n - 1) Tryz.prog l (encE x) W fun e W' =>
      (e = .returned (.bool true) ∧ J (pre ++ [x]) W' ∧ Kp W W') ∨ (e = .returned (.bool false) ∧ Jx (pre ++ [x]) W'))
    (hIv : ∀ W, Iv W → ItE W B so cap X) (hkp : ∀ W W', Kp W W' → Iv W → Iv W') (hga : ∀ W W' : World, W.grownBy W' none → Iv W → Iv W') (hJa : ∀ pre (W W' : World), W.grownBy W' none → J pre W → J pre W') (W : World) (hI : Iv W) (h0 : J [] W) :
    CallsIn Fence.wide n Tryz.prog 154 #[.func (.yield l) #[] #[], .pointer (some ⟨B, 0, none⟩)] W fun e W' => (∃ v, e = .returned v) ∧
      ((∃ ys, ys = X ∧ J ys W') ∨ (∃ pre, Jx pre W')) := by
  refine callsIn_of_wp Tryz.func154 rfl trivial ?_ rfl
  simp only [Tryz.ntmps154, List.size_toArray, List.length_cons, List.length_nil, Nat.reduceAdd, Nat.reduceSub, Array.replicate_succ, Array.replicate_zero, List.push_toArray, List.append_toArray, List.nil_append, List.cons_append]
  have hc := cell_row (hIv _ hI).box 0
  simp at hc
  gi_wp2
  gi_loopw [7] (fun q wr => ∃ i : Nat, q = .int .i64 (i : Int) ∧ i ≤ X.length ∧ Hid (J (X.take i) wr ∧ Iv wr)) (fun q _ => leftE X.length q)
  case atStart => exact ⟨0, rfl, Nat.zero_le _, by rw [List.take_zero]; exact ⟨h0, hI⟩⟩
  case round =>
    obtain ⟨i, rfl, hi, HJ⟩ := hrel
    clear hc
    by_cases hlt : i < X.length
    · obtain ⟨g, rfl, c0, c1⟩ := (hIv _ HJ.out.2).row i hlt
      have hle := (hIv _ HJ.out.2).le
      have ga := World.grownBy_alloc wr (.cells #[.int .u32 ((en X i).1 : Int), .int .i64 (en X i).2] 192) none
      obtain ⟨fn, tmps, assign, body, hy, hR⟩ := hY (X.take i) (en X i) _ (hJa _ _ _ ga HJ.out.1) (by rw [take_en hlt]; exact List.take_prefix _ _)
      have nb : (wr.alloc (.cells #[.int .u32 ((en X i).1 : Int), .int .i64 (en X i).2] 192)).heap[wr.heap.size]? = some (.cells [Value.int .u32 ((en X i).1 : Int), .int .i64 (en X i).2].toArray 192 (0, 0)) := heap_alloc_new wr _
      have HT := hide (take_en hlt)
      rw [HT.out] at hR
      have HI2 := hide (hga _ _ ga HJ.out.2)
      clear ga nb hi
      unfold encE at hy
      generalize (en X i).1 = a at *
      generalize (en X i).2 = b at *
      have hil : ((i : Int) < (X.length : Int)) = True := by simp; omega
      gi_wp2
      refine hR.mono ?_
      rintro e W3 (⟨rfl, hJ3, hk3⟩ | ⟨rfl, hJx3⟩)
      · have H3 := hide (And.intro hJ3 (hkp _ _ hk3 HI2.out))
        clear hJ3 hk3
        have hw1 : IntKind.i64.wrap ((i : Int) + 1) = (i : Int) + 1 := by rw [IntKind.wrap_i64]; omega
        gi_wp2
        go_roundw
        case rel => exact ⟨i + 1, by simp, by omega, H3.out⟩
        case measure =>
          have e1 := leftE_nat X.length (i + 1)
          have e2 := leftE_nat X.length i
          rw [show ((i : Int) + 1) = (((i + 1 : Nat)) : Int) by omega, e1, e2]
          omega
      · gi_wp2
        refine bodyPost_ret (results_none rfl _ _ _) rfl ?_
        exact ⟨⟨_, rfl⟩, .inr ⟨_, hJx3⟩⟩
    · have hil : decide ((i : Int) < (X.length : Int)) = false := by simp; omega
      obtain rfl : i = X.length := by omega
      gi_wp2
      go_end0
      exact ⟨⟨_, rfl⟩, .inl ⟨_, rfl, by have := HJ.out.1; rw [List.take_length] at this; exact this⟩⟩
/-- What it does from any world in which its blocks stand. -/
theorem ix_seqV (Kp : World → World → Prop) (n : Nat) (hn : 1 ≤ n) (B : Nat) (so : Option Addr) (cap : Nat) (X : List (Nat × Int)) (hX : X.length ≤ 65536) (hkp : ∀ W W', Kp W W' → ItE W B so cap X → ItE W' B so cap X) (W : World) (hI : ItE W B so cap X) :
    SeqV Fence.wide n Tryz.prog 154 #[.pointer (some ⟨B, 0, none⟩)] encE Kp (fun pre x _ => pre ++ [x] <+: X) (fun ys => ys = X) W := fun l J Jx hJ _hJx hY h0 =>
  it_genV Kp (fun W => ItE W B so cap X) n hn l B so cap X hX J Jx hY (fun _ h => h) hkp (fun _ _ g h => h.grown g) (fun pre A A' g h => hJ pre A A' h g) W hI h0
end Go.Proofs.YtjfhilignbeboaaGreatDoor.Ix
/- A book made. -/
namespace Go.Proofs.YtjfhilignbeboaaGreatDoor
open Go.RowKit
attribute [local go_sem ↓] Go.wp_at_zero Go.wp_at_succ
theorem Tryz.info51 : (Tryz.prog.info? 51).map (fun i => (i.zero, i.size, i.bytes)) = some (some (.agg #[.int .u32 0, .int .i64 0, .int .i64 0]), 3, 24) := by kernel_rfl
theorem bgs_zero (n : Nat) : madeCells #[.int .u32 0, .int .i64 0, .int .i64 0] (n * 3) = (bgs (List.replicate n ⟨0, 0, 0⟩)).toArray := by
  apply Array.ext'
  apply List.ext_getElem?
  intro j
  by_cases hj : j < n * 3
  · obtain ⟨h1, h2, h3⟩ := bgs_get (R := List.replicate n ⟨0, 0, 0⟩) (i := j / 3) (by simp; omega)
    have hr : rd (List.replicate n ⟨0, 0, 0⟩) (j / 3) = ⟨0, 0, 0⟩ := by unfold rd; rw [List.getElem?_replicate]; split <;> rfl
    rw [hr] at h1 h2 h3
    have hm : j % 3 = 0 ∨ j % 3 = 1 ∨ j % 3 = 2 := by omega
    rcases hm with hm | hm | hm
    · rw [show j / 3 * 3 = j by omega] at h1
      simp [madeCells, hj, hm, h1]
    · rw [show j / 3 * 3 + 1 = j by omega] at h2
      simp [madeCells, hj, hm, h2]
    · rw [show j / 3 * 3 + 2 = j by omega] at h3
      simp [madeCells, hj, hm, h3]
  · rw [List.getElem?_eq_none (by simp [madeCells]; omega), List.getElem?_eq_none (by simp [bgs_length]; omega)]
theorem make_bgs (n : Nat) (h : n ≤ 1024) (w : World) : (Instr.makeSlice 40 (.int .i64 (n : Int)) (.int .i64 (n : Int))).run Tryz.prog w = .ok (.slice (some ⟨w.heap.size, 0, none⟩) n n) (w.alloc (.cells (bgs (List.replicate n ⟨0, 0, 0⟩)).toArray 51)) := by
  obtain ⟨i0, hi, hz0, hz1, hz2⟩ := info_parts Tryz.info51
  rw [run_make (P := Tryz.prog) (w := w) 40 51 i0 (.agg #[.int .u32 0, .int .i64 0, .int .i64 0]) Tryz.underlying40 hi hz0 .i64 .i64 (n : Int) (n : Int) (by omega) (by omega) (by rw [hz2]; omega) (by omega), hz1]
  simp [bgs_zero, Value.cells]
theorem sx_g {w W : World} {X : Nat} {u v z : Value} (h : w.cell? ⟨X, 0, none⟩ = some u ∧ w.cell? ⟨X, 1, none⟩ = some v ∧ w.cell? ⟨X, 2, none⟩ = some z) (g : w.grownBy W none) : W.cell? ⟨X, 0, none⟩ = some u ∧ W.cell? ⟨X, 1, none⟩ = some v ∧ W.cell? ⟨X, 2, none⟩ = some z :=
  ⟨g.cell h.1 (by simp), g.cell h.2.1 (by simp), g.cell h.2.2 (by simp)⟩
theorem gn_drew {a b : World} (h : a.grownBy b none) : a.grownBy b.drew none := grown_trans h (grown_drew _ _)
theorem gn_alloc {a b : World} (h : a.grownBy b none) (o : Obj) : a.grownBy (b.alloc o) none := grown_trans h (grown_alloc _ _)
theorem gn_set {a b : World} (h : a.grownBy b none) {g j : Nat} {v : Value} (hg : a.heap.size ≤ g) : a.grownBy (b.setCell ⟨g, j, none⟩ v) none := grown_then h (grown_setCell b g j v) (fun i e => .inl (by cases e; exact hg))
/-- The cells of a book that is being made. -/
def emc (a b c n : Nat) (t : Int) (tb sg x hm : Nat) : List Value := [.int .i64 (a : Int), .int .i64 (b : Int), .int .i64 (c : Int), .pointer none, .int .u32 (n : Int), .int .i64 t, .pointer (some ⟨tb, 0, none⟩), .slice (some ⟨sg, 0, none⟩) a a, .pointer (some ⟨x, 0, none⟩), .pointer none, .map (some hm)]
structure Emp (w W : World) (a b c n : Nat) (t : Int) (tb x vb bb sg hm : Nat) : Prop where
  gr : w.grownBy W none
  var : W.heap[vb]? = some (.cells [Value.pointer (some ⟨bb, 0, none⟩)].toArray 34 (0, 0))
  head : W.heap[bb]? = some (.cells (emc a b c n t tb sg x hm).toArray 45 (0, 0))
  row : W.heap[sg]? = some (.cells (bgs (List.replicate a ⟨0, 0, 0⟩)).toArray 51 (0, 0))
  map : W.heap[hm]? = some (.map #[] 0)
  lv : w.heap.size ≤ vb
  lb : w.heap.size ≤ bb
  ls : w.heap.size ≤ sg
  lm : w.heap.size ≤ hm
theorem Emp.drew {w W : World} {a b c n : Nat} {t : Int} {tb x vb bb sg hm : Nat} (h : Emp w W a b c n t tb x vb bb sg hm) : Emp w W.drew a b c n t tb x vb bb sg hm := ⟨gn_drew h.gr, h.var, h.head, h.row, h.map, h.lv, h.lb, h.ls, h.lm⟩
theorem four (w : World) (o0 o1 o2 o3 : Obj) : w.grownBy ((((w.alloc o0).alloc o1).alloc o2).alloc o3) none ∧ ((((w.alloc o0).alloc o1).alloc o2).alloc o3).heap[w.heap.size]? = some o0 ∧ ((((w.alloc o0).alloc o1).alloc o2).alloc o3).heap[w.heap.size + 1]? = some o1 ∧ ((((w.alloc o0).alloc o1).alloc o2).alloc o3).heap[w.heap.size + 1 + 1]? = some o2 ∧ ((((w.alloc o0).alloc o1).alloc o2).alloc o3).heap[w.heap.size + 1 + 1 + 1]? = some o3 := by
  have h0 := heap_alloc_new w o0
  have h1 := heap_alloc_new (w.alloc o0) o1
  have h2 := heap_alloc_new ((w.alloc o0).alloc o1) o2
  have h3 := heap_alloc_new (((w.alloc o0).alloc o1).alloc o2) o3
  simp only [World.size_alloc] at h1 h2 h3
  have k : ∀ {W : World} {o : Obj} {i : Nat} {v : Obj}, W.heap[i]? = some v → (W.alloc o).heap[i]? = some v := fun {W o i v} h => ((grown_alloc W o).block _ (row_lt h) (by simp)).trans h
  exact ⟨gn_alloc (gn_alloc (gn_alloc (gn_alloc (grown_refl _ _) _) _) _) _, k (k (k h0)), k (k h1), k h2, h3⟩
theorem emp_0 (w : World) (a b c n : Nat) (t : Int) (tb x : Nat) : Emp w ((((w.alloc (.cells (bgs (List.replicate a ⟨0, 0, 0⟩)).toArray 51)).alloc (.map #[] 0)).alloc (.cells #[.int .i64 (a : Int), .int .i64 (b : Int), .int .i64 (c : Int), .pointer none, .int .u32 (n : Int), .int .i64 t, .pointer (some ⟨tb, 0, none⟩), .slice (some ⟨w.heap.size, 0, none⟩) a a, .pointer (some ⟨x, 0, none⟩), .pointer none, .map (some (w.heap.size + 1))] 45)).alloc (.cells #[.pointer (some ⟨w.heap.size + 1 + 1, 0, none⟩)] 34)).drew a b c n t tb x (w.heap.size + 1 + 1 + 1) (w.heap.size + 1 + 1) (w.heap.size) (w.heap.size + 1) := by
  have f := four w (.cells (bgs (List.replicate a ⟨0, 0, 0⟩)).toArray 51) (.map #[] 0) (.cells #[.int .i64 (a : Int), .int .i64 (b : Int), .int .i64 (c : Int), .pointer none, .int .u32 (n : Int), .int .i64 t, .pointer (some ⟨tb, 0, none⟩), .slice (some ⟨w.heap.size, 0, none⟩) a a, .pointer (some ⟨x, 0, none⟩), .pointer none, .map (some (w.heap.size + 1))] 45) (.cells #[.pointer (some ⟨w.heap.size + 1 + 1, 0, none⟩)] 34)
  exact Emp.drew ⟨f.1, f.2.2.2.2, f.2.2.2.1, f.2.1, f.2.2.1, by omega, by omega, by omega, by omega⟩
theorem emp_1 (w : World) (a b c n : Nat) (t : Int) (tb x : Nat) : Emp w ((((w.alloc (.cells (bgs (List.replicate a ⟨0, 0, 0⟩)).toArray 51)).alloc (.map #[] 0)).alloc (.cells #[.pointer (some ⟨w.heap.size + 1 + 1 + 1, 0, none⟩)] 34)).alloc (.cells #[.int .i64 (a : Int), .int .i64 (b : Int), .int .i64 (c : Int), .pointer none, .int .u32 (n : Int), .int .i64 t, .pointer (some ⟨tb, 0, none⟩), .slice (some ⟨w.heap.size, 0, none⟩) a a, .pointer (some ⟨x, 0, none⟩), .pointer none, .map (some (w.heap.size + 1))] 45)).drew a b c n t tb x (w.heap.size + 1 + 1) (w.heap.size + 1 + 1 + 1) (w.heap.size) (w.heap.size + 1) := by
  have f := four w (.cells (bgs (List.replicate a ⟨0, 0, 0⟩)).toArray 51) (.map #[] 0) (.cells #[.pointer (some ⟨w.heap.size + 1 + 1 + 1, 0, none⟩)] 34) (.cells #[.int .i64 (a : Int), .int .i64 (b : Int), .int .i64 (c : Int), .pointer none, .int .u32 (n : Int), .int .i64 t, .pointer (some ⟨tb, 0, none⟩), .slice (some ⟨w.heap.size, 0, none⟩) a a, .pointer (some ⟨x, 0, none⟩), .pointer none, .map (some (w.heap.size + 1))] 45)
  exact Emp.drew ⟨f.1, f.2.2.2.1, f.2.2.2.2, f.2.1, f.2.2.1, by omega, by omega, by omega, by omega⟩
theorem emp_2 (w : World) (a b c n : Nat) (t : Int) (tb x : Nat) : Emp w ((((w.alloc (.cells (bgs (List.replicate a ⟨0, 0, 0⟩)).toArray 51)).alloc (.cells #[.pointer (some ⟨w.heap.size + 1 + 1 + 1, 0, none⟩)] 34)).alloc (.map #[] 0)).alloc (.cells #[.int .i64 (a : Int), .int .i64 (b : Int), .int .i64 (c : Int), .pointer none, .int .u32 (n : Int), .int .i64 t, .pointer (some ⟨tb, 0, none⟩), .slice (some ⟨w.heap.size, 0, none⟩) a a, .pointer (some ⟨x, 0, none⟩), .pointer none, .map (some (w.heap.size + 1 + 1))] 45)).drew a b c n t tb x (w.heap.size + 1) (w.heap.size + 1 + 1 + 1) (w.heap.size) (w.heap.size + 1 + 1) := by
  have f := four w (.cells (bgs (List.replicate a ⟨0, 0, 0⟩)).toArray 51) (.cells #[.pointer (some ⟨w.heap.size + 1 + 1 + 1, 0, none⟩)] 34) (.map #[] 0) (.cells #[.int .i64 (a : Int), .int .i64 (b : Int), .int .i64 (c : Int), .pointer none, .int .u32 (n : Int), .int .i64 t, .pointer (some ⟨tb, 0, none⟩), .slice (some ⟨w.heap.size, 0, none⟩) a a, .pointer (some ⟨x, 0, none⟩), .pointer none, .map (some (w.heap.size + 1 + 1))] 45)
  exact Emp.drew ⟨f.1, f.2.2.1, f.2.2.2.2, f.2.1, f.2.2.2.1, by omega, by omega, by omega, by omega⟩
theorem emp_3 (w : World) (a b c n : Nat) (t : Int) (tb x : Nat) : Emp w ((((w.alloc (.map #[] 0)).alloc (.cells (bgs (List.replicate a ⟨0, 0, 0⟩)).toArray 51)).alloc (.cells #[.int .i64 (a : Int), .int .i64 (b : Int), .int .i64 (c : Int), .pointer none, .int .u32 (n : Int), .int .i64 t, .pointer (some ⟨tb, 0, none⟩), .slice (some ⟨w.heap.size + 1, 0, none⟩) a a, .pointer (some ⟨x, 0, none⟩), .pointer none, .map (some (w.heap.size))] 45)).alloc (.cells #[.pointer (some ⟨w.heap.size + 1 + 1, 0, none⟩)] 34)).drew a b c n t tb x (w.heap.size + 1 + 1 + 1) (w.heap.size + 1 + 1) (w.heap.size + 1) (w.heap.size) := by
  have f := four w (.map #[] 0) (.cells (bgs (List.replicate a ⟨0, 0, 0⟩)).toArray 51) (.cells #[.int .i64 (a : Int), .int .i64 (b : Int), .int .i64 (c : Int), .pointer none, .int .u32 (n : Int), .int .i64 t, .pointer (some ⟨tb, 0, none⟩), .slice (some ⟨w.heap.size + 1, 0, none⟩) a a, .pointer (some ⟨x, 0, none⟩), .pointer none, .map (some (w.heap.size))] 45) (.cells #[.pointer (some ⟨w.heap.size + 1 + 1, 0, none⟩)] 34)
  exact Emp.drew ⟨f.1, f.2.2.2.2, f.2.2.2.1, f.2.2.1, f.2.1, by omega, by omega, by omega, by omega⟩
theorem emp_4 (w : World) (a b c n : Nat) (t : Int) (tb x : Nat) : Emp w ((((w.alloc (.map #[] 0)).alloc (.cells (bgs (List.replicate a ⟨0, 0, 0⟩)).toArray 51)).alloc (.cells #[.pointer (some ⟨w.heap.size + 1 + 1 + 1, 0, none⟩)] 34)).alloc (.cells #[.int .i64 (a : Int), .int .i64 (b : Int), .int .i64 (c : Int), .pointer none, .int .u32 (n : Int), .int .i64 t, .pointer (some ⟨tb, 0, none⟩), .slice (some ⟨w.heap.size + 1, 0, none⟩) a a, .pointer (some ⟨x, 0, none⟩), .pointer none, .map (some (w.heap.size))] 45)).drew a b c n t tb x (w.heap.size + 1 + 1) (w.heap.size + 1 + 1 + 1) (w.heap.size + 1) (w.heap.size) := by
  have f := four w (.map #[] 0) (.cells (bgs (List.replicate a ⟨0, 0, 0⟩)).toArray 51) (.cells #[.pointer (some ⟨w.heap.size + 1 + 1 + 1, 0, none⟩)] 34) (.cells #[.int .i64 (a : Int), .int .i64 (b : Int), .int .i64 (c : Int), .pointer none, .int .u32 (n : Int), .int .i64 t, .pointer (some ⟨tb, 0, none⟩), .slice (some ⟨w.heap.size + 1, 0, none⟩) a a, .pointer (some ⟨x, 0, none⟩), .pointer none, .map (some (w.heap.size))] 45)
  exact Emp.drew ⟨f.1, f.2.2.2.1, f.2.2.2.2, f.2.2.1, f.2.1, by omega, by omega, by omega, by omega⟩
theorem emp_5 (w : World) (a b c n : Nat) (t : Int) (tb x : Nat) : Emp w ((((w.alloc (.map #[] 0)).alloc (.cells #[.pointer (some ⟨w.heap.size + 1 + 1 + 1, 0, none⟩)] 34)).alloc (.cells (bgs (List.replicate a ⟨0, 0, 0⟩)).toArray 51)).alloc (.cells #[.int .i64 (a : Int), .int .i64 (b : Int), .int .i64 (c : Int), .pointer none, .int .u32 (n : Int), .int .i64 t, .pointer (some ⟨tb, 0, none⟩), .slice (some ⟨w.heap.size + 1 + 1, 0, none⟩) a a, .pointer (some ⟨x, 0, none⟩), .pointer none, .map (some (w.heap.size))] 45)).drew a b c n t tb x (w.heap.size + 1) (w.heap.size + 1 + 1 + 1) (w.heap.size + 1 + 1) (w.heap.size) := by
  have f := four w (.map #[] 0) (.cells #[.pointer (some ⟨w.heap.size + 1 + 1 + 1, 0, none⟩)] 34) (.cells (bgs (List.replicate a ⟨0, 0, 0⟩)).toArray 51) (.cells #[.int .i64 (a : Int), .int .i64 (b : Int), .int .i64 (c : Int), .pointer none, .int .u32 (n : Int), .int .i64 t, .pointer (some ⟨tb, 0, none⟩), .slice (some ⟨w.heap.size + 1 + 1, 0, none⟩) a a, .pointer (some ⟨x, 0, none⟩), .pointer none, .map (some (w.heap.size))] 45)
  exact Emp.drew ⟨f.1, f.2.2.1, f.2.2.2.2, f.2.2.2.1, f.2.1, by omega, by omega, by omega, by omega⟩
theorem emp_6 (w : World) (a b c n : Nat) (t : Int) (tb x : Nat) : Emp w ((((w.alloc (.cells #[.pointer (some ⟨w.heap.size + 1 + 1 + 1, 0, none⟩)] 34)).alloc (.cells (bgs (List.replicate a ⟨0, 0, 0⟩)).toArray 51)).alloc (.map #[] 0)).alloc (.cells #[.int .i64 (a : Int), .int .i64 (b : Int), .int .i64 (c : Int), .pointer none, .int .u32 (n : Int), .int .i64 t, .pointer (some ⟨tb, 0, none⟩), .slice (some ⟨w.heap.size + 1, 0, none⟩) a a, .pointer (some ⟨x, 0, none⟩), .pointer none, .map (some (w.heap.size + 1 + 1))] 45)).drew a b c n t tb x (w.heap.size) (w.heap.size + 1 + 1 + 1) (w.heap.size + 1) (w.heap.size + 1 + 1) := by
  have f := four w (.cells #[.pointer (some ⟨w.heap.size + 1 + 1 + 1, 0, none⟩)] 34) (.cells (bgs (List.replicate a ⟨0, 0, 0⟩)).toArray 51) (.map #[] 0) (.cells #[.int .i64 (a : Int), .int .i64 (b : Int), .int .i64 (c : Int), .pointer none, .int .u32 (n : Int), .int .i64 t, .pointer (some ⟨tb, 0, none⟩), .slice (some ⟨w.heap.size + 1, 0, none⟩) a a, .pointer (some ⟨x, 0, none⟩), .pointer none, .map (some (w.heap.size + 1 + 1))] 45)
  exact Emp.drew ⟨f.1, f.2.1, f.2.2.2.2, f.2.2.1, f.2.2.2.1, by omega, by omega, by omega, by omega⟩
theorem emp_7 (w : World) (a b c n : Nat) (t : Int) (tb x : Nat) : Emp w ((((w.alloc (.cells #[.pointer (some ⟨w.heap.size + 1 + 1 + 1, 0, none⟩)] 34)).alloc (.map #[] 0)).alloc (.cells (bgs (List.replicate a ⟨0, 0, 0⟩)).toArray 51)).alloc (.cells #[.int .i64 (a : Int), .int .i64 (b : Int), .int .i64 (c : Int), .pointer none, .int .u32 (n : Int), .int .i64 t, .pointer (some ⟨tb, 0, none⟩), .slice (some ⟨w.heap.size + 1 + 1, 0, none⟩) a a, .pointer (some ⟨x, 0, none⟩), .pointer none, .map (some (w.heap.size + 1))] 45)).drew a b c n t tb x (w.heap.size) (w.heap.size + 1 + 1 + 1) (w.heap.size + 1 + 1) (w.heap.size + 1) := by
  have f := four w (.cells #[.pointer (some ⟨w.heap.size + 1 + 1 + 1, 0, none⟩)] 34) (.map #[] 0) (.cells (bgs (List.replicate a ⟨0, 0, 0⟩)).toArray 51) (.cells #[.int .i64 (a : Int), .int .i64 (b : Int), .int .i64 (c : Int), .pointer none, .int .u32 (n : Int), .int .i64 t, .pointer (some ⟨tb, 0, none⟩), .slice (some ⟨w.heap.size + 1 + 1, 0, none⟩) a a, .pointer (some ⟨x, 0, none⟩), .pointer none, .map (some (w.heap.size + 1))] 45)
  exact Emp.drew ⟨f.1, f.2.1, f.2.2.2.2, f.2.2.2.1, f.2.2.1, by omega, by omega, by omega, by omega⟩
/-- The book that is made: its parts lie apart. -/
theorem made_apart {s0 s1 s2 s3 : Nat} {p : Bp} (_h01 : s0 ≤ s1) (h12 : s1 ≤ s2) (_h23 : s2 ≤ s3) (ht : s0 ≤ p.tb ∧ p.tb < s1 ∧ s0 ≤ p.tg ∧ p.tg < s1 ∧ p.tb ≠ p.tg) (hi : ∀ i, p.ip.own i → s1 ≤ i ∧ i < s2) (hb : s2 ≤ p.b ∧ p.b < s3 ∧ s2 ≤ p.vb ∧ p.vb < s3 ∧ s2 ≤ p.sg ∧ p.sg < s3 ∧ s2 ≤ p.hm ∧ p.hm < s3 ∧ p.b ≠ p.vb ∧ p.b ≠ p.sg ∧ p.b ≠ p.hm ∧ p.vb ≠ p.sg ∧ p.vb ≠ p.hm ∧ p.sg ≠ p.hm) (hh : ∀ i, p.hp.own i → s3 ≤ i) : p.Apart ∧ ∀ i, p.own i → s0 ≤ i := by
  have key : ∀ i j, p.role j i → (j = 0 ∧ i = p.b) ∨ (j = 1 ∧ i = p.vb) ∨ (j = 2 ∧ i = p.sg) ∨ (j = 3 ∧ s1 ≤ i ∧ i < s2) ∨ (j = 4 ∧ i = p.tb) ∨ (j = 5 ∧ i = p.tg) ∨ (j = 6 ∧ s3 ≤ i) ∨ (j = 7 ∧ i = p.hm) := by
    rintro i j (h | h | h | ⟨h, e⟩ | h | h | ⟨h, e⟩ | h)
    · exact .inl h
    · exact .inr (.inl h)
    · exact .inr (.inr (.inl h))
    · have := hi i e; omega
    · exact .inr (.inr (.inr (.inr (.inl h))))
    · exact .inr (.inr (.inr (.inr (.inr (.inl h)))))
    · have := hh i e; omega
    · exact .inr (.inr (.inr (.inr (.inr (.inr (.inr h))))))
  constructor
  · intro i j l h1 h2
    have k1 := key i j h1
    have k2 := key i l h2
    rcases k1 with k1 | k1 | k1 | k1 | k1 | k1 | k1 | k1 <;> omega
  · rintro i ⟨j, h1⟩
    have k1 := key i j h1
    omega
/-- Blocks that hold unlike things are unlike. -/
theorem ne_obj {w : World} {i j : Nat} {o o' : Obj} (h : w.heap[i]? = some o) (h' : w.heap[j]? = some o') (hne : o ≠ o') : i ≠ j := fun e => by rw [e, h'] at h; exact hne (Option.some.inj h).symm
theorem cells_ne {c c' : Array Value} {t t' : TypeId} {f f' : Nat × Nat} (h : t ≠ t') : Obj.cells c t f ≠ Obj.cells c' t' f' := fun e => by cases e; exact h rfl
/-- The book that was made. -/
theorem made_bk {w w1 w2 w3 w5 w6 : World} {a b c n : Nat} {t : Int} {tb tg x g m : Nat} {SS : List (Option (Nat × Int))} {vb bb sg hm : Nat} {hp : Hp.Hp} (_a0 : 1 ≤ a) (a1 : a ≤ 1024) (g1 : w.grownBy w1 none) (hset : Bt.SetAt w1 tb tg (List.replicate a false)) (t1 : w.heap.size ≤ tb) (t2 : w.heap.size ≤ tg) (hz : 0 < w.heap.size)
    (hix : Ix.IxAt w2 x g m b 0 SS []) (g2 : w1.grownBy w2 none) (x1 : w1.heap.size ≤ x) (x2 : w1.heap.size ≤ g) (hE : Emp w2 w3 a b c n t tb x vb bb sg hm)
    (hHS : Hp.HS w5 (lsB vb bb sg ⟨x, g, m, b⟩ [] (List.replicate a ⟨0, 0, 0⟩)) hp [] [] 0 0) (g5 : (w3.setCell ⟨bb, 3, none⟩ (.pointer (some ⟨bb, 0, none⟩))).grownBy w5 none) (hf : ∀ i, hp.own i → w3.heap.size ≤ i) (h6 : w6 = w5.setCell ⟨bb, 9, none⟩ (.pointer (some ⟨hp.h, 0, none⟩))) :
    BkAt w6 ⟨bb, vb, sg, tb, tg, ⟨x, g, m, b⟩, hp, hm⟩ ⟨a, b, c, n, t, []⟩ 0 ∧ w.grownBy w6 none ∧ ∀ i, Bp.own ⟨bb, vb, sg, tb, tg, ⟨x, g, m, b⟩, hp, hm⟩ i → w.heap.size ≤ i := by
  have hbv := ne_obj hE.head hE.var (cells_ne (by decide))
  have hbs := ne_obj hE.head hE.row (cells_ne (by decide))
  have hbm := ne_obj hE.head hE.map (by intro e; cases e)
  have hvs := ne_obj hE.var hE.row (cells_ne (by decide))
  have hvm := ne_obj hE.var hE.map (by intro e; cases e)
  have hsm := ne_obj hE.row hE.map (by intro e; cases e)
  have l1 := row_lt hE.head
  have l2 := row_lt hE.var
  have l3 := row_lt hE.row
  have l4 := row_lt hE.map
  have lv := hE.lv
  have lb := hE.lb
  have ls := hE.ls
  have lm := hE.lm
  have tl1 := hset.lt
  have z1 := g1.size
  have z2 := g2.size
  have xl1 := row_lt hix.at_.head
  have xl2 := row_lt hix.at_.row
  obtain ⟨hap, hown⟩ := made_apart (s0 := w.heap.size) (s1 := w1.heap.size) (s2 := w2.heap.size) (s3 := w3.heap.size) (p := ⟨bb, vb, sg, tb, tg, ⟨x, g, m, b⟩, hp, hm⟩) z1 z2 hE.gr.size ⟨t1, tl1.1, t2, tl1.2, hset.ne hset⟩ (by
    rintro i (rfl | rfl)
    · exact ⟨x1, xl1⟩
    · exact ⟨x2, xl2⟩) ⟨lb, l1, lv, l2, ls, l3, lm, l4, hbv, hbs, hbm, hvs, hvm, hsm⟩ hf
  have k4 : Kept w3 (w3.setCell ⟨bb, 3, none⟩ (.pointer (some ⟨bb, 0, none⟩))) (fun i => i = bb) := kept_setCell _ _ _ _
  have k5 : Kept w3 w5 (fun i => i = bb) := k4.trans (Kept.new g5 _) (fun _ _ e => e)
  have k6 : Kept w3 w6 (fun i => i = bb) := by rw [h6]; exact k5.trans (kept_setCell w5 bb 9 _) (fun _ _ e => e)
  have k56 : Kept w5 w6 (fun i => i = bb) := by rw [h6]; exact kept_setCell w5 bb 9 _
  have k2 : Kept w2 w6 (fun i => i = bb) := (Kept.new hE.gr _).trans k6 (fun _ _ e => e)
  have k1 : Kept w1 w6 (fun i => i = bb) := (Kept.new g2 _).trans k2 (fun _ _ e => e)
  have hhead : w6.heap[bb]? = some (.cells (bkc ⟨bb, vb, sg, tb, tg, ⟨x, g, m, b⟩, hp, hm⟩ ⟨a, b, c, n, t, []⟩).toArray 45 (0, 0)) := by
    have h4 := row_setCell hE.head 3 (.pointer (some ⟨bb, 0, none⟩))
    have h5 := (g5.block _ (row_lt h4) (by simp)).trans h4
    have h7 := row_setCell h5 9 (.pointer (some ⟨hp.h, 0, none⟩))
    rw [h6, h7]
    rfl
  have hvar := k6.at hE.var (fun e => hbv e.symm)
  have hrow := k6.at hE.row (fun e => hbs e.symm)
  have hio : Ix.Io w6 ⟨x, g, m, b⟩ [] false := ⟨0, SS, hix.far k2 (show ¬ x = bb by omega) (show ¬ g = bb by omega), by simp⟩
  have hls : LsI w6 vb bb sg ⟨x, g, m, b⟩ [] (List.replicate a ⟨0, 0, 0⟩) :=
    ⟨⟨⟨_, hhead, by simp [bkc], rfl⟩, hrow, ⟨false, hio⟩, (fun y hy => by cases hy), by simp; exact a1, (by rintro (e | e) <;> simp only at e <;> omega), (by rintro (e | e) <;> simp only at e <;> omega)⟩, hvar, by rintro (e | e) <;> simp only at e <;> omega⟩
  have hmap : U.MapAt w6 Tryz.prog 23 hm 0 (fun _ => none) := U.mapAt_made (k6.at hE.map (fun e => hbm e.symm))
  refine ⟨⟨List.replicate a false, List.replicate a ⟨0, 0, 0⟩, [], [], [], 0, 0, 0, ⟨hhead, hvar, SetAt_far hset k1 (show ¬ tb = bb by omega) (show ¬ tg = bb by omega), hrow, ⟨false, hio⟩, HS_re hHS k56 (fun i hi e => by have := hf i hi; omega) rfl rfl hls (fun _ e => e) (fun _ _ _ _ => rfl) (fun e he => by cases he), hmap.congr (fun _ => rfl), hap, fun e => by have := hown 0 e; omega, by simp, rfl, a1, fun y hy => by cases hy⟩, ⟨by simp, fun j => ?_, by simp, (fun x hx => by cases hx), rfl, (fun e he => by cases he), (fun x hx => by cases hx), List.Pairwise.nil⟩, Nat.le_refl _, by simp, Nat.le_refl _⟩, ?_, hown⟩
  · simp [sat, List.getD_eq_getElem?_getD, List.getElem?_replicate]
    split <;> rfl
  · exact ⟨k1.os.trans g1.os, k1.tape.trans g1.tape, k1.output.trans g1.output, Nat.le_trans g1.size k1.size, fun i hi hne => (k1.block i (Nat.lt_of_lt_of_le hi g1.size) (by omega)).trans (g1.block i hi hne)⟩
set_option maxHeartbeats 8000000 in
theorem empty_any (a b c n : Nat) (t : Int) (h : Gx.OkS a b c) (w : World) (hz : 0 < w.heap.size) : Calls Tryz.prog 37 #[limV a b c, .int .u32 (n : Int), .int .i64 t] w fun e w' => ∃ p, e = .returned (.pointer (some ⟨p.b, 0, none⟩)) ∧ BkAt w' p ⟨a, b, c, n, t, []⟩ 0 ∧ w.grownBy w' none ∧ (∀ i, p.own i → w.heap.size ≤ i) := by
  obtain ⟨a0, a1, b0, b1, c0, c1⟩ := h
  have hmk := make_bgs a (by omega)
  have HB : Hid (∀ W : World, w.grownBy W none → Calls Tryz.prog 90 #[.int .i64 (a : Int)] W fun e w' => ∃ b g, e = .returned (.tuple #[.pointer (some ⟨b, 0, none⟩), .int .i64 0]) ∧ Bt.SetAt w' b g (List.replicate a false) ∧ W.heap.size ≤ b ∧ W.heap.size ≤ g ∧ W.grownBy w' none) := fun W hW => Bt.new_any a W (by omega) (by have := hW.size; omega)
  have HI : Hid (∀ W : World, Calls Tryz.prog 91 #[.int .i64 (b : Int)] W fun e w' => ∃ x g n S, e = .returned (.tuple #[.pointer (some ⟨x, 0, none⟩), .int .i64 0]) ∧ Ix.IxAt w' x g n b 0 S [] ∧ W.grownBy w' none ∧ W.heap.size ≤ x ∧ W.heap.size ≤ g) := fun W => Ix.new_any b (by omega) (by omega) W
  have hmm := @run_makeMap Tryz.prog
  unfold limV
  go_enter Tryz.func37, Tryz.ntmps37
  go_wp2_with fail
  refine (HB.out _ (grown_alloc w _)).mono ?_
  rintro e w1 ⟨tb, tg, rfl, hset, ht1, ht2, hg1⟩
  have hbx1 : w1.heap[w.heap.size]? = some (.cells [Value.int .i64 (a : Int), .int .i64 (b : Int), .int .i64 (c : Int)].toArray 36 (0, 0)) := (hg1.block _ (by simp) (by simp)).trans (heap_alloc_new w _)
  obtain ⟨-, z1, -, -⟩ := box3 hbx1
  have H1 := hide (And.intro hset (And.intro ht1 (And.intro ht2 (And.intro (grown_trans (grown_alloc w _) hg1) hbx1))))
  clear hset ht1 ht2 hg1 hbx1
  go_wp2_with fail
  refine (HI.out _).mono ?_
  rintro e w2 ⟨x, g, m, SS, rfl, hix, hg2, hx1, hx2⟩
  have hbx2 := (hg2.block _ (row_lt H1.out.2.2.2.2) (by simp)).trans H1.out.2.2.2.2
  obtain ⟨y0, y1, y2, -⟩ := box3 hbx2
  have H2 := hide (And.intro hix (And.intro hg2 (And.intro hx1 hx2)))
  have hsz : w.heap.size < w2.heap.size := row_lt hbx2
  clear hix hg2 hx1 hx2 z1 hbx2 HB HI
  go_wp2
  go_cut [11] from 24 to 35 (fun v W => ∃ vb bb sg hm : Nat, v = .pointer (some ⟨vb, 0, none⟩) ∧ Hid (Emp w2 W a b c n t tb x vb bb sg hm))
  case first =>
    go_region_held3 (fun W => W.cell? ⟨w.heap.size, 0, none⟩ = some (.int .i64 (a : Int)) ∧ W.cell? ⟨w.heap.size, 1, none⟩ = some (.int .i64 (b : Int)) ∧ W.cell? ⟨w.heap.size, 2, none⟩ = some (.int .i64 (c : Int))) (first | assumption | exact sx_g ⟨y0, y1, y2⟩ (by repeat (first | with_reducible exact grown_refl _ _ | with_reducible refine gn_drew ?_ | with_reducible refine gn_alloc ?_ _ | with_reducible refine gn_set ?_ (by simp)))) (fail)
    all_goals
      go_wp2
      go_meet
      case rel =>
        first
          | exact ⟨_, _, _, _, rfl, emp_0 w2 a b c n t tb x⟩
          | exact ⟨_, _, _, _, rfl, emp_1 w2 a b c n t tb x⟩
          | exact ⟨_, _, _, _, rfl, emp_2 w2 a b c n t tb x⟩
          | exact ⟨_, _, _, _, rfl, emp_3 w2 a b c n t tb x⟩
          | exact ⟨_, _, _, _, rfl, emp_4 w2 a b c n t tb x⟩
          | exact ⟨_, _, _, _, rfl, emp_5 w2 a b c n t tb x⟩
          | exact ⟨_, _, _, _, rfl, emp_6 w2 a b c n t tb x⟩
          | exact ⟨_, _, _, _, rfl, emp_7 w2 a b c n t tb x⟩
  case rest =>
  obtain ⟨vb, bb, sg, hm, rfl, HE⟩ := hcut
  have e := HE.out
  have v0 := cell_row e.var 0
  have h3 : wc.cell? ⟨bb, 3, none⟩ = some (.pointer none) := cell_row e.head 3
  have h3f := free_row e.head 3
  have hbv : ¬ bb = vb := ne_obj e.head e.var (cells_ne (by decide))
  have hmf : ∀ (fn : Fn) (first cap : Array Value) (w : World), (Instr.makeFunc fn first cap).run Tryz.prog w = .ok (.func fn first cap) w := fun _ _ _ _ => rfl
  have HN : Hid (∀ W, (wc.setCell ⟨bb, 3, none⟩ (.pointer (some ⟨bb, 0, none⟩))).grownBy W none → Calls Tryz.prog 92 #[.func (.func 93) #[] #[.pointer (some ⟨vb, 0, none⟩)]] W fun e w' => ∃ hp : Hp.Hp, e = .returned (.pointer (some ⟨hp.h, 0, none⟩)) ∧ Hp.HS w' (lsB vb bb sg ⟨x, g, m, b⟩ [] (List.replicate a ⟨0, 0, 0⟩)) hp [] [] 0 0 ∧ W.grownBy w' none ∧ (∀ j, hp.own j → W.heap.size ≤ j)) := by
    intro W hg
    have hE := HE.out
    obtain ⟨hix, hg2, hx1, hx2⟩ := H2.out
    have k4 : Kept wc W (fun i => i = bb) := (kept_setCell wc bb 3 (.pointer (some ⟨bb, 0, none⟩))).trans (Kept.new hg _) (fun _ _ e => e)
    have k2 : Kept w2 W (fun i => i = bb) := (Kept.new hE.gr _).trans k4 (fun _ _ e => e)
    have xl1 := row_lt hix.at_.head
    have xl2 := row_lt hix.at_.row
    have lv := hE.lv
    have lb := hE.lb
    have ls := hE.ls
    have h4 := row_setCell hE.head 3 (.pointer (some ⟨bb, 0, none⟩))
    have h5 := (hg.block _ (row_lt h4) (by simp)).trans h4
    have hls : LsI W vb bb sg ⟨x, g, m, b⟩ [] (List.replicate a ⟨0, 0, 0⟩) :=
      ⟨⟨⟨_, h5, by simp [emc], rfl⟩, k4.at hE.row (fun e => ne_obj hE.head hE.row (cells_ne (by decide)) e.symm), ⟨false, 0, SS, hix.far k2 (show ¬ x = bb by omega) (show ¬ g = bb by omega), by simp⟩, (fun y hy => by cases hy), (by simp; omega), (by rintro (e | e) <;> simp only at e <;> omega), (by rintro (e | e) <;> simp only at e <;> omega)⟩, k4.at hE.var (fun e => ne_obj hE.head hE.var (cells_ne (by decide)) e.symm), by rintro (e | e) <;> simp only at e <;> omega⟩
    exact Hp.new_any (lsB_ok vb bb sg ⟨x, g, m, b⟩ [] (List.replicate a ⟨0, 0, 0⟩)) hls
  have HF : Hid (∀ W w5 hp, (wc.setCell ⟨bb, 3, none⟩ (.pointer (some ⟨bb, 0, none⟩))).grownBy W none → W.heap.size = wc.heap.size → Hp.HS w5 (lsB vb bb sg ⟨x, g, m, b⟩ [] (List.replicate a ⟨0, 0, 0⟩)) hp [] [] 0 0 → W.grownBy w5 none → (∀ j, hp.own j → W.heap.size ≤ j) → (w5.cell? ⟨vb, 0, none⟩ = some (.pointer (some ⟨bb, 0, none⟩)) ∧ w5.cell? ⟨bb, 9, none⟩ = some (.pointer none) ∧ w5.frozen? ⟨bb, 9, none⟩ = false) ∧ ∀ w6, w6 = w5.setCell ⟨bb, 9, none⟩ (.pointer (some ⟨hp.h, 0, none⟩)) → w6.cell? ⟨vb, 0, none⟩ = some (.pointer (some ⟨bb, 0, none⟩)) ∧ ∃ p : Bp, p.b = bb ∧ BkAt w6 p ⟨a, b, c, n, t, []⟩ 0 ∧ w.grownBy w6 none ∧ ∀ i, p.own i → w.heap.size ≤ i) := by
    intro W w5 hp q1 q2 q3 q4 q5
    have hE := HE.out
    obtain ⟨hix, hg2, hx1, hx2⟩ := H2.out
    obtain ⟨hset, ht1, ht2, hg1, hbx⟩ := H1.out
    simp only [World.size_alloc] at ht1 ht2
    have h4 := row_setCell hE.head 3 (.pointer (some ⟨bb, 0, none⟩))
    have h5 := ((grown_trans q1 q4).block _ (row_lt h4) (by simp)).trans h4
    have v4 := (Below.heap_setCell wc ⟨bb, 3, none⟩ (.pointer (some ⟨bb, 0, none⟩)) vb (fun e => hbv e.symm)).trans hE.var
    have v5 := ((grown_trans q1 q4).block _ (row_lt v4) (by simp)).trans v4
    refine ⟨⟨cell_row v5 0, cell_row h5 9, free_row h5 9⟩, fun w6 e6 => ⟨?_, ⟨bb, vb, sg, tb, tg, ⟨x, g, m, b⟩, hp, hm⟩, rfl, made_bk (by omega) (by omega) hg1 hset (by omega) (by omega) hz hix hg2 hx1 hx2 hE q3 (grown_trans q1 q4) (by rw [← q2]; exact q5) e6⟩⟩
    rw [e6]
    exact (grown_setCell w5 bb 9 _).cell (cell_row v5 0) (by simp; omega)
  clear e HE H1 H2 y0 y1 y2 hsz hmk hmm a0 a1 b0 b1 c0 c1 hz
  go_wp2
  go_region_held3 (fun W => W.cell? ⟨vb, 0, none⟩ = some (.pointer (some ⟨bb, 0, none⟩))) (first | assumption | exact (grown_setCell _ _ _ _).cell v0 (by simp; omega))
    ((go_at_call 92; refine (HN.out _ (grown_drew _ none)).mono ?_; rintro e w5 ⟨hp, rfl, q3, q4, q5⟩; obtain ⟨⟨p1, p2, p3⟩, p4⟩ := HF.out _ w5 hp (grown_drew _ none) (by simp) q3 q4 q5; obtain ⟨p5, p6⟩ := p4 _ rfl; have HP6 := hide p6; clear p6 p4 q3 q4 q5))
  go_wp2
  go_ret
  obtain ⟨p, rfl, r1, r2, r3⟩ := HP6.out
  exact ⟨p, rfl, r1, r2, r3⟩
end Go.Proofs.YtjfhilignbeboaaGreatDoor
