/- Texts joined: JnAl. -/
import Derived.Test.YtinkkocleognbaaGreatDoorJuAk
import Derived.Test.YtinkkocleognbaaGreatDoorJuAa
import Derived.RangeFuncNested
import Derived.RangeFuncBound
import Derived.RangeFuncCalls
import Derived.RangeFuncLeaves
import Derived.RangeFuncBox
import Derived.OrdersIn
import Derived.OrdersHeld
import Derived.Deep.RegionHeld
import Derived.Deep.Quiet
/- Texts joined: IxIj, Rv, IxIv, Rr, BkH. -/
/- All of an index: the iterator's value. -/
namespace Go.Proofs.YtinkkocleognbaaGreatDoor.Ix
open Go.RowKit Go.Shelf
attribute [local go_sem ↓] Go.wp_at_zero Go.wp_at_succ
/-- What goes through the items M, its blocks from B0 on. -/
def AllV (w : World) (B0 : Nat) (v : Value) (M : List (Nat × Int)) : Prop := ∃ B so cap, v = .func (.func 125) #[] #[.pointer (some ⟨B, 0, none⟩)] ∧ ItE w B so cap M ∧ B0 ≤ B ∧ (∀ a, so = some a → B0 ≤ a.block)
theorem all_of {w : World} {arg : Value} {E X : List (Nat × Int)} (hit : Calls Tryz.prog 121 #[arg] w fun e w' => ∃ so cap, e = .returned (.slice so E.length cap) ∧ w'.ownsRow w.heap.size 177 2 (.slice so E.length cap) E.length (icells E) ∧ w.grownBy w' none) (hE : E.length ≤ 65536) (hX : X.Perm E) (hA : Asc X) :
    Calls Tryz.prog 90 #[arg] w fun e w' => ∃ v, e = .returned v ∧ AllV w' w.heap.size v X ∧ w.grownBy w' none := by
  have hXl : X.length = E.length := hX.length_eq
  have hmf : ∀ (fn : Fn) (first cap : Array Value) (w : World), (Instr.makeFunc fn first cap).run Tryz.prog w = .ok (.func fn first cap) w := fun _ _ _ _ => rfl
  have HE := hide (And.intro hE (And.intro hX (And.intro hA hXl)))
  clear hE hX hA hXl
  go_enter Tryz.func90, Tryz.ntmps90
  go_wp2_with fail
  refine hit.mono ?_
  clear hit
  rintro e w1 ⟨so, cap, rfl, hr1, g1⟩
  obtain ⟨w2, hw2⟩ : ∃ w2, w2 = w1.alloc (.cells #[.slice so E.length cap] 173) := ⟨_, rfl⟩
  have g2 : w1.grownBy w2 none := by rw [hw2]; exact World.grownBy_alloc w1 _ none
  have hB2 : w2.heap[w1.heap.size]? = some (.cells [Value.slice so E.length cap].toArray 173 (0, 0)) := by rw [hw2]; exact heap_alloc_new w1 _
  have hr2 : w2.ownsRow w.heap.size 177 2 (.slice so E.length cap) E.length (icells E) := by rw [hw2]; exact hr1.alloc _
  have hso := sort_row hr2 HE.out.1 HE.out.2.1 HE.out.2.2.1
  rw [hw2] at hso
  have H2 := hide (And.intro hw2 (And.intro g2 (And.intro hB2 (And.intro hr2 (And.intro hr1 g1)))))
  clear hw2 g2 hB2 hr2 hr1 g1
  go_wp2_with fail
  refine hso.mono ?_
  clear hso
  rintro e w4 ⟨rfl, g4, hc4⟩
  rw [← H2.out.1] at g4
  have H4 := hide (And.intro g4 hc4)
  clear g4 hc4
  go_wp2
  go_ret
  have hsz := H2.out.2.2.2.2.2.size
  have hblk : ∀ g, (Value.slice so E.length cap).ownBlock = some g → w.heap.size ≤ g ∧ g ≠ w1.heap.size := fun g hg => by
    obtain ⟨h1, cur, hc⟩ := own_block H2.out.2.2.2.2.1 hg
    exact ⟨h1, fun e => by have := row_lt hc; omega⟩
  refine ⟨_, rfl, ⟨w1.heap.size, so, cap, rfl, ⟨?_, ?_, H4.out.2⟩, hsz, fun a ha => (hblk a.block (by rw [ha]; rfl)).1⟩, ?_⟩
  · rw [HE.out.2.2.2]
    exact (H4.out.1.block _ (row_lt H2.out.2.2.1) (fun e => (hblk _ e.symm).2 rfl)).trans H2.out.2.2.1
  · obtain ⟨vo, c2, hv, hle⟩ := own_form H2.out.2.2.2.1
    cases hv
    rw [HE.out.2.2.2]
    exact hle
  · exact grown_then (grown_trans H2.out.2.2.2.2.2 H2.out.2.1) H4.out.1 (fun j e => Or.inl (hblk j e).1)
theorem all_io {w : World} {p : Ip} {M : List (Nat × Int)} {lo : Bool} (h : Io w p M lo) :
    Calls Tryz.prog 90 #[.pointer (some ⟨p.x, 0, none⟩)] w fun e w' => ∃ v, e = .returned v ∧ AllV w' w.heap.size v M ∧ w.grownBy w' none := by
  obtain ⟨st, S, h1, _⟩ := h
  have hp := h1.inv.perm
  have hl := hp.length_eq
  exact all_of (items_at h1.at_) (by have := h1.full; have := h1.m2; unfold its; omega) hp.symm h1.inv.asc
/-- No index: none, or one that New did not answer. -/
def NoIx (w : World) (v : Value) : Prop := v = .pointer none ∨ ∃ x, v = .pointer (some ⟨x, 0, none⟩) ∧ w.cell? ⟨x, 0, none⟩ = some (.pointer none)
theorem NoIx.then {w w' : World} {v : Value} (h : NoIx w v) (g : w.grownBy w' none) : NoIx w' v := by
  rcases h with h | ⟨x, h1, h2⟩
  · exact .inl h
  · exact .inr ⟨x, h1, g.cell h2 (by simp)⟩
end Go.Proofs.YtinkkocleognbaaGreatDoor.Ix
/- A range over a function whose elements lead to memory: what is so of an element when it is handed on is told to the loop's body. -/
namespace Go.Proofs.YtinkkocleognbaaGreatDoor
open Go.RowKit

/-- New blocks alone leave it so. -/
def Stands {β : Type} (J : β → World → Prop) : Prop := ∀ s A B, J s A → A.grownBy B none → J s B

/-- What the iterator g does from W on: it hands on elements x, each with V pre x in the world in which it is handed on (pre: those ahead of it). -/
def SeqV {α : Type} (F : Fence) (n : Nat) (P : Program) (g : Nat) (lb : Array Value) (encs : α → Array Value) (Kp : World → World → Prop) (V : List α → α → World → Prop) (S : List α → Prop) (W : World) : Prop :=
  ∀ (l : Nat) (J Jx : List α → World → Prop), Stands J → Stands Jx →
    (∀ pre x W1, J pre W1 → V pre x W1 → YieldAt F (n - 1) P l (encs x) W1 fun e W' =>
      (e = .returned (.bool true) ∧ J (pre ++ [x]) W' ∧ Kp W1 W') ∨ (e = .returned (.bool false) ∧ Jx (pre ++ [x]) W')) →
    J [] W →
    CallsIn F n P g (#[.func (.yield l) #[] #[]] ++ lb) W fun e W' => (∃ v, e = .returned v) ∧ ((∃ xs, S xs ∧ J xs W') ∨ (∃ pre, Jx pre W'))

theorem OwnFrom.stands {β : Type} {B : Nat} {I : β → World → Prop} (h : OwnFrom B I) : Stands I := fun s A C hs hg => h s A C none hs hg (fun r e => by cases e)

variable {F : Fence} {n : Nat} {P : Program}

theorem wpIn_range_V {α : Type} {g : Operand} {ps : Array Tmp} {assign body : Code} {Q : Exit → Act → World → Prop} {a : Act} {w : World}
    (hro : F.round = none) (h1 : 1 ≤ n) {gf : Nat} {lb : Array Value} (hg : a.eval g = .func (.func gf) #[] lb) (hFg : F.fn gf) (eg : ∀ args w, (callFunc gf args).run P w = .ok (.enter gf args) w)
    {encs : α → Array Value} {Kp : World → World → Prop} {V : List α → α → World → Prop} {S : List α → Prop} (hseq : ∀ W, w.grownBy W none → SeqV F (n - 1) P gf lb encs Kp V S W)
    (hKt : ∀ {A B C : World}, Kp A B → Kp B C → Kp A C) (hKb : ∀ (W : World) (l : Nat) (o' : Obj), w.heap.size ≤ l → Kp W (W.putObj l o')) (hKg : ∀ (W W' : World), w.heap.size ≤ W.heap.size → W.grownBy W' none → Kp W W') (hps : ∀ x, (encs x).size = ps.size)
    (hV : ∀ pre, OwnFrom w.heap.size (V pre))
    (I : List α → World → Prop) (Ix : Code → List α → World → Prop) (hI : OwnFrom w.heap.size I) (hIx : ∀ c, OwnFrom w.heap.size (Ix c)) (h0 : I [] w) (Ax : α → Act → World → Prop) (hAx : ∀ x, OwnFrom w.heap.size (Ax x))
    (hassign : ∀ (l : Nat) (pre : List α) (x : α) (W : World) (K : Act → World → Prop), I pre W → V pre x W → (∀ a' W', W.grownBy W' none → Ax x a' W' → K a' W') →
      assign.wpIn (F.inRound l) (n - 1 - 1) P (Exit.then K (fun _ _ _ => False)) { tmps := (ps.zip (encs x)).foldl (fun t (p, v) => t.setIfInBounds p v) a.tmps, defers := [] } W)
    (hbody : ∀ (l : Nat) (pre : List α) (x : α) (a' : Act) (W : World), I pre W → V pre x W → Ax x a' W → body.wpIn (F.inRound l) (n - 1 - 1) P (ownPostG w.heap.size Kp I Ix (pre ++ [x]) W) a' W)
    (hdone : ∀ (D : Nat) (xs : List α) (W : World), w.heap.size ≤ D → S xs → I xs W → W.heap[D]? = some (.deferred (some [])) → Q .normal { a with defers := { target := .collected D, args := #[] } :: a.defers } W)
    (hstop : ∀ (D : Nat) (c : Code) (pre : List α) (W : World), w.heap.size ≤ D → Ix c pre W → W.heap[D]? = some (.deferred (some [])) → c.wpIn F n P Q { a with defers := { target := .collected D, args := #[] } :: a.defers } W) :
    (Code.rangeFunc g ps assign body).wpIn F n P Q a w := by
  refine wpIn_rangeFunc fun fn hfn => ?_
  rw [hro]
  -- the loop's record R at block w.heap.size + 1, the deferred calls' block at w.heap.size
  generalize hR : (fun (st : LoopState) (pe : Option Code) => ({ state := st, pending := pe, fn, tmps := a.tmps, params := ps, assign, body, defers := w.heap.size } : Loop)) = R
  have hRs : ∀ st pe, R st pe = { state := st, pending := pe, fn, tmps := a.tmps, params := ps, assign, body, defers := w.heap.size } := fun st pe => by rw [← hR]
  generalize hW1 : (w.alloc (.deferred (some []))).alloc (.loop (R .ready none)) = W1
  have hL1 : W1.heap[w.heap.size + 1]? = some (.loop (R .ready none)) := by
    have := World.alloc_heap_new (w.alloc (.deferred (some []))) (.loop (R .ready none))
    rw [← hW1]
    rwa [World.size_alloc] at this
  have hD1 : W1.heap[w.heap.size]? = some (.deferred (some [])) := by
    rw [← hW1]
    exact (Below.heap_alloc _ _ _ (by simp)).trans (World.alloc_heap_new w _)
  have hgr : w.grownBy W1 none := by
    rw [← hW1]
    have k1 := World.grownBy_alloc w (.deferred (some [])) none
    have k2 := World.grownBy_alloc (w.alloc (.deferred (some []))) (.loop (R .ready none)) none
    exact ⟨k2.os.trans k1.os, k2.tape.trans k1.tape, k2.output.trans k1.output, Nat.le_trans k1.size k2.size, fun i hi hne => (k2.block i (Nat.lt_of_lt_of_le hi k1.size) hne).trans (k1.block i hi hne)⟩
  have keeps : ∀ {A B : World} {k : Nat} {o : Obj}, A.grownBy B none → A.heap[k]? = some o → B.heap[k]? = some o := fun hAB hk =>
    (hAB.block _ (Array.getElem?_eq_some_iff.1 hk).1 (fun e => by cases e)).trans hk
  refine ⟨w.heap.size + 1, [{ target := .collected w.heap.size, args := #[] }], W1, { target := .fn (.func gf) lb, args := #[.func (.yield (w.heap.size + 1)) #[] #[]] }, W1, gf,
    #[.func (.yield (w.heap.size + 1)) #[] #[]] ++ lb, W1, ?_, ?_, ?_, ?_, fun _ => h1, ?_⟩
  · rw [← hW1, hRs]; exact run_enterLoop_outer _ _ _ _ _
  · simp only [resolve, hg]
    simp [go_sem]
  · intro f' hf'; simp [Target.leads] at hf'; subst hf'; exact hFg
  · simp [invoke, go_sem, eg]
  · refine (hseq W1 hgr (w.heap.size + 1)
      (fun pre W => I pre W ∧ W.heap[w.heap.size + 1]? = some (.loop (R .ready none)) ∧ W.heap[w.heap.size]? = some (.deferred (some [])))
      (fun pre W => ∃ c, Ix c pre W ∧ W.heap[w.heap.size + 1]? = some (.loop (R .done (some c))) ∧ W.heap[w.heap.size]? = some (.deferred (some [])))
      (fun s A B hs hAB => ⟨OwnFrom.stands hI s A B hs.1 hAB, keeps hAB hs.2.1, keeps hAB hs.2.2⟩)
      (fun s A B hs hAB => by
        obtain ⟨c, hc, hl, hk⟩ := hs
        exact ⟨c, OwnFrom.stands (hIx c) s A B hc hAB, keeps hAB hl, keeps hAB hk⟩)
      ?_ ⟨OwnFrom.stands hI [] w W1 h0 hgr, hL1, hD1⟩).mono ?_
    · rintro pre x W0 ⟨hi0, hl0, hk0⟩ hv0
      have hy := run_yield (P := P) (args := encs x) hl0 (by rw [hRs]; exact hps x)
      rw [hRs] at hy
      refine ⟨fn, _, assign, body, hy, roundIn_of_wpIn hfn (hassign _ pre x W0 _ hi0 hv0 ?_)⟩
      intro a' W hW hax
      have hi := OwnFrom.stands hI pre W0 W hi0 hW
      have hv := OwnFrom.stands (hV pre) x W0 W hv0 hW
      have hl := keeps hW hl0
      have hk := keeps hW hk0
      have hlt : w.heap.size + 1 < W.heap.size := (Array.getElem?_eq_some_iff.1 hl).1
      have hKW : Kp W0 W := hKg W0 W (by have := (Array.getElem?_eq_some_iff.1 hl0).1; omega) hW
      refine ⟨_, run_beginRound hl (by rw [hRs]), ?_⟩
      generalize hBz : (Obj.loop { R .ready none with state := .busy }) = busy
      have hl2 : (W.putObj (w.heap.size + 1) busy).heap[w.heap.size + 1]? = some busy := World.putObj_heap_same hlt
      have hk2 : (W.putObj (w.heap.size + 1) busy).heap[w.heap.size]? = some (.deferred (some [])) := (World.putObj_heap_other (by omega)).trans hk
      have hnc : busy.isCells = false := by rw [← hBz]; rfl
      refine wpIn_mono (hbody _ pre x a' _ (hI.putObj _ hi (by omega) hl rfl) ((hV pre).putObj _ hv (by omega) hl rfl) ((hAx x).putObj _ hax (by omega) hl rfl)) ?_
      have fin : ∀ (jump : Option Code) (W3 : World), KeepsFrom w.heap.size (W.putObj (w.heap.size + 1) busy) W3 →
          (Instr.endRound (w.heap.size + 1) jump).run P W3 = .ok (.bool jump.isNone) (W3.putObj (w.heap.size + 1) (.loop (R (if jump.isNone then .ready else .done) jump))) ∧
          W3.heap[w.heap.size + 1]? = some busy ∧
          (W3.putObj (w.heap.size + 1) (.loop (R (if jump.isNone then .ready else .done) jump))).heap[w.heap.size + 1]? = some (.loop (R (if jump.isNone then .ready else .done) jump)) ∧
          (W3.putObj (w.heap.size + 1) (.loop (R (if jump.isNone then .ready else .done) jump))).heap[w.heap.size]? = some (.deferred (some [])) := by
        intro jump W3 hk3
        have hl3 := hk3.same _ _ (by omega) hl2 hnc
        have hrun := run_endRound (P := P) jump (by rw [← hBz] at hl3; exact hl3)
        rw [hRs] at hrun ⊢
        exact ⟨hrun, hl3, World.putObj_heap_same (Array.getElem?_eq_some_iff.1 hl3).1, (World.putObj_heap_other (by omega)).trans (hk3.same _ _ (Nat.le_refl _) hk2 rfl)⟩
      have hleft : ∀ (c : Code) (W3 : World), KeepsFrom w.heap.size (W.putObj (w.heap.size + 1) busy) W3 → Ix c (pre ++ [x]) W3 →
          ∃ v W4, (Instr.endRound (w.heap.size + 1) (some c)).run P W3 = .ok v W4 ∧
            ((Ending.returned v = .returned (.bool true) ∧ (I (pre ++ [x]) W4 ∧ W4.heap[w.heap.size + 1]? = some (.loop (R .ready none)) ∧ W4.heap[w.heap.size]? = some (.deferred (some []))) ∧ Kp W0 W4) ∨
             (Ending.returned v = .returned (.bool false) ∧ ∃ c, Ix c (pre ++ [x]) W4 ∧ W4.heap[w.heap.size + 1]? = some (.loop (R .done (some c))) ∧ W4.heap[w.heap.size]? = some (.deferred (some [])))) := by
        intro c W3 hk3 hi3
        obtain ⟨hr, hl3, hl4, hk4⟩ := fin (some c) W3 hk3
        exact ⟨_, _, hr, .inr ⟨rfl, c, (hIx c).putObj _ hi3 (by omega) hl3 hnc, hl4, hk4⟩⟩
      rintro e a3 W3 hp
      cases e with
      | normal =>
        obtain ⟨hk3, hkp3, hi3⟩ := hp
        obtain ⟨hr, hl3, hl4, hk4⟩ := fin none W3 hk3
        exact ⟨_, _, hr, .inl ⟨rfl, ⟨hI.putObj _ hi3 (by omega) hl3 hnc, hl4, hk4⟩, hKt hKW (hKt (hKt (hKb _ _ _ (by omega)) hkp3) (hKb _ _ _ (by omega)))⟩⟩
      | ret => exact hleft .ret W3 hp.1 hp.2
      | exit id => exact hleft (.exit id) W3 hp.1 hp.2
      | goto t => exact hleft (.goto t) W3 hp.1 hp.2
      | panic ch => exact hp.elim
      | outgrown => exact hp.elim
    · rintro e W2 ⟨⟨v, rfl⟩, (⟨xs, hS, hi, hl, hk⟩ | ⟨pre, c, hi, hl, hk⟩)⟩
      · exact ⟨none, _, by have := run_endLoop (P := P) hl (by rw [hRs]; simp); rw [hRs] at this; exact this, hdone _ xs _ (Nat.le_refl _) hS (hI.putObj _ hi (by omega) hl rfl) ((World.putObj_heap_other (by omega)).trans hk)⟩
      · exact ⟨some c, _, by have := run_endLoop (P := P) hl (by rw [hRs]; simp); rw [hRs] at this; exact this, hstop _ c pre _ (Nat.le_refl _) ((hIx c).putObj _ hi (by omega) hl rfl) ((World.putObj_heap_other (by omega)).trans hk)⟩
end Go.Proofs.YtinkkocleognbaaGreatDoor
/- The index's iterator, each element told by its place. -/
namespace Go.Proofs.YtinkkocleognbaaGreatDoor.Ix
open Go.RowKit Go.Shelf
attribute [local go_sem ↓] Go.wp_at_zero Go.wp_at_succ
set_option maxRecDepth 100000 in
set_option maxHeartbeats 1000000 in
theorem it_genV (Kp : World → World → Prop) (Iv : World → Prop) (n : Nat) (hn : 1 ≤ n) (l B : Nat) (so : Option Addr) (cap : Nat) (X : List (Nat × Int)) (hX : X.length ≤ 65536) (J Jx : List (Nat × Int) → World → Prop)
    (hY : ∀ pre (x : Nat × Int) W, J pre W → pre ++ [x] <+: X → YieldAt Fence.wide (n - 1) Tryz.prog l (encE x) W fun e W' =>
      (e = .returned (.bool true) ∧ J (pre ++ [x]) W' ∧ Kp W W') ∨ (e = .returned (.bool false) ∧ Jx (pre ++ [x]) W'))
    (hIv : ∀ W, Iv W → ItE W B so cap X) (hkp : ∀ W W', Kp W W' → Iv W → Iv W') (hga : ∀ W W' : World, W.grownBy W' none → Iv W → Iv W') (hJa : ∀ pre (W W' : World), W.grownBy W' none → J pre W → J pre W') (W : World) (hI : Iv W) (h0 : J [] W) :
    CallsIn Fence.wide n Tryz.prog 125 #[.func (.yield l) #[] #[], .pointer (some ⟨B, 0, none⟩)] W fun e W' => (∃ v, e = .returned v) ∧
      ((∃ ys, ys = X ∧ J ys W') ∨ (∃ pre, Jx pre W')) := by
  refine callsIn_of_wp Tryz.func125 rfl trivial ?_ rfl
  simp only [Tryz.ntmps125, List.size_toArray, List.length_cons, List.length_nil, Nat.reduceAdd, Nat.reduceSub, Array.replicate_succ, Array.replicate_zero, List.push_toArray, List.append_toArray, List.nil_append, List.cons_append]
  have hc := cell_row (hIv _ hI).box 0
  simp at hc
  gi_wp2
  gi_loopw [7] (fun q wr => ∃ i : Nat, q = .int .i64 (i : Int) ∧ i ≤ X.length ∧ Hid (J (X.take i) wr ∧ Iv wr)) (fun q _ => leftE X.length q)
  case atStart => exact ⟨0, rfl, Nat.zero_le _, by rw [List.take_zero]; exact ⟨h0, hI⟩⟩
  case round =>
    obtain ⟨i, rfl, hi, HJ⟩ := hrel
    clear hc
    by_cases hlt : i < X.length
    · obtain ⟨g, rfl, c0, c1⟩ := (hIv _ HJ.out.2).row i hlt
      have hle := (hIv _ HJ.out.2).le
      have ga := World.grownBy_alloc wr (.cells #[.int .u32 ((en X i).1 : Int), .int .i64 (en X i).2] 177) none
      obtain ⟨fn, tmps, assign, body, hy, hR⟩ := hY (X.take i) (en X i) _ (hJa _ _ _ ga HJ.out.1) (by rw [take_en hlt]; exact List.take_prefix _ _)
      have nb : (wr.alloc (.cells #[.int .u32 ((en X i).1 : Int), .int .i64 (en X i).2] 177)).heap[wr.heap.size]? = some (.cells [Value.int .u32 ((en X i).1 : Int), .int .i64 (en X i).2].toArray 177 (0, 0)) := heap_alloc_new wr _
      have HT := hide (take_en hlt)
      rw [HT.out] at hR
      have HI2 := hide (hga _ _ ga HJ.out.2)
      clear ga nb hi
      unfold encE at hy
      generalize (en X i).1 = a at *
      generalize (en X i).2 = b at *
      have hil : ((i : Int) < (X.length : Int)) = True := by simp; omega
      gi_wp2
      refine hR.mono ?_
      rintro e W3 (⟨rfl, hJ3, hk3⟩ | ⟨rfl, hJx3⟩)
      · have H3 := hide (And.intro hJ3 (hkp _ _ hk3 HI2.out))
        clear hJ3 hk3
        have hw1 : IntKind.i64.wrap ((i : Int) + 1) = (i : Int) + 1 := by rw [IntKind.wrap_i64]; omega
        gi_wp2
        go_roundw
        case rel => exact ⟨i + 1, by simp, by omega, H3.out⟩
        case measure =>
          have e1 := leftE_nat X.length (i + 1)
          have e2 := leftE_nat X.length i
          rw [show ((i : Int) + 1) = (((i + 1 : Nat)) : Int) by omega, e1, e2]
          omega
      · gi_wp2
        refine bodyPost_ret (results_none rfl _ _ _) rfl ?_
        exact ⟨⟨_, rfl⟩, .inr ⟨_, hJx3⟩⟩
    · have hil : decide ((i : Int) < (X.length : Int)) = false := by simp; omega
      obtain rfl : i = X.length := by omega
      gi_wp2
      go_end0
      exact ⟨⟨_, rfl⟩, .inl ⟨_, rfl, by have := HJ.out.1; rw [List.take_length] at this; exact this⟩⟩
/-- What it does from any world in which its blocks stand. -/
theorem ix_seqV (Kp : World → World → Prop) (n : Nat) (hn : 1 ≤ n) (B : Nat) (so : Option Addr) (cap : Nat) (X : List (Nat × Int)) (hX : X.length ≤ 65536) (hkp : ∀ W W', Kp W W' → ItE W B so cap X → ItE W' B so cap X) (W : World) (hI : ItE W B so cap X) :
    SeqV Fence.wide n Tryz.prog 125 #[.pointer (some ⟨B, 0, none⟩)] encE Kp (fun pre x _ => pre ++ [x] <+: X) (fun ys => ys = X) W := fun l J Jx hJ _hJx hY h0 =>
  it_genV Kp (fun W => ItE W B so cap X) n hn l B so cap X hX J Jx hY (fun _ h => h) hkp (fun _ _ g h => h.grown g) (fun pre A A' g h => hJ pre A A' h g) W hI h0
end Go.Proofs.YtinkkocleognbaaGreatDoor.Ix
/- A region that draws its order, inside a round of a range over a function: what is shown of it outside a round holds there too. -/
namespace Go.Proofs.YtinkkocleognbaaGreatDoor
open Go

variable {P : Program} {ops : Array Oper} {Q : Exit → Act → World → Prop} {md : Region.Mode}
theorem oper_round {o : Oper} {l n : Nat} {a : Act} {w : World} {K : Act → World → Prop} (hd : ∀ c, o.op ≠ .defer c) (h : o.wp P a w K Q) : o.wpIn (Fence.wide.inRound l) n P a w K Q := by
  unfold Oper.wp at h
  refine ⟨fun _ _ => trivial, ?_⟩
  rw [Oper.semAt_eq _ _ _ hd]
  generalize (execOp a.eval o).run P w = r at *
  cases r with
  | ok x w' =>
    cases x <;> simp only [Oper.upon, Oper.uponIn] at h ⊢ <;>
      first
        | exact h
        | exact ⟨fun e => (by have e2 : false = true := e; cases e2), CallsIn.inRound l (callsIn_wide.2 h)⟩
        | exact ⟨fun e => (by have e2 : false = true := e; cases e2), fun c cs _ => let ⟨v, w'', r, s⟩ := h c cs; ⟨v, w'', r, stepsIn_wide.2 s⟩⟩
        | exact h.elim
  | halt x w' => cases x <;> simp only [Oper.upon, Oper.uponIn] at h ⊢ <;> exact h
theorem op_round {i l n : Nat} {a : Act} {w : World} {K : Act → World → Prop} (hd : ∀ (j : Nat) (o : Oper), ops[j]? = some o → ∀ c, o.op ≠ .defer c) (hno : ¬ LetsOut Q) (h : wpOp P ops Q i K a w) : wpOpIn (Fence.wide.inRound l) n P ops Q i K a w := by
  unfold wpOp at h
  unfold wpOpIn
  split
  · rename_i ho; simp only [ho] at h; exact h
  · rename_i o ho
    simp only [ho] at h
    split
    · rename_i hw
      simp only [hw, if_true] at h
      rcases h with h | h
      · exact oper_round (hd _ _ ho) h
      · exact absurd h.2 hno
    · rename_i hw
      simp only [hw] at h
      exact ⟨fun _ _ => trivial, h⟩
theorem any_round {l n : Nat} (hd : ∀ (j : Nat) (o : Oper), ops[j]? = some o → ∀ c, o.op ≠ .defer c) (hno : ¬ LetsOut Q) : ∀ (fuel : Nat) (listed : Array Bool) (a : Act) (w : World), wpAny P md ops Q fuel listed a w → wpAnyIn (Fence.wide.inRound l) n P md ops Q fuel listed a w
  | 0, _, _, _, h => h
  | fuel + 1, _, _, _, h => ⟨h.1, fun i hi => wpOpIn_mono (fun a' w' h' => any_round hd hno fuel _ a' w' h') (op_round hd hno (h.2 i hi))⟩
def noDefer (ops : Array Oper) : Bool := ops.toList.all fun o => match o.op with | .defer _ => false | _ => true
theorem noDefer_spec (h : noDefer ops = true) : ∀ (j : Nat) (o : Oper), ops[j]? = some o → ∀ c, o.op ≠ .defer c := by
  intro j o ho c e
  have hm : o ∈ ops.toList := by simpa using Array.mem_of_getElem? ho
  have := List.all_eq_true.1 h o hm
  rw [e] at this
  cases this
/-- The beginning, inside a round. -/
theorem wpIn_round_held {S : World → Prop} {id l n : Nat} {a : Act} {w : World} (hm : P.follows .mixedOrders = true) (hd : noDefer ops = true) (hno : ¬ LetsOut Q) (hS : S w.drew)
    (h : S w.drew → wpAnyH P .any ops Q S ops.size (Array.replicate ops.size false) a w.drew) : (Code.region id ops true).wpIn (Fence.wide.inRound l) n P Q a w :=
  wpIn_region_any hm (any_round (noDefer_spec hd) hno _ _ _ _ (wpAny_of_held _ _ _ _ (h hS)))
end Go.Proofs.YtinkkocleognbaaGreatDoor
/- What slices.Values goes through. -/
namespace Go.Proofs.YtinkkocleognbaaGreatDoor
open Go.RowKit Go.Shelf
attribute [local go_sem ↓] Go.wp_at_zero Go.wp_at_succ
def encB (x : Bg) : Array Value := #[bgV x]
/-- The row that is gone through. -/
structure ItB (W : World) (B : Nat) (so : Option Addr) (cap : Nat) (X : List Bg) : Prop where
  box : W.heap[B]? = some (.cells [Value.slice so X.length cap].toArray 32 (0, 0))
  le : X.length ≤ cap
  row : ∀ i, i < X.length → ∃ g, so = some ⟨g, 0, none⟩ ∧ W.cell? ⟨g, i * 3, none⟩ = some (.int .u32 ((rd X i).i : Int)) ∧ W.cell? ⟨g, i * 3 + 1, none⟩ = some (.int .i64 ((rd X i).s : Int)) ∧ W.cell? ⟨g, i * 3 + 2, none⟩ = some (.int .i64 (rd X i).u)
theorem ItB.grown {W W' : World} {B : Nat} {so : Option Addr} {cap : Nat} {X : List Bg} (h : ItB W B so cap X) (g : W.grownBy W' none) : ItB W' B so cap X :=
  ⟨(g.block _ (row_lt h.box) (by simp)).trans h.box, h.le, fun i hi => by obtain ⟨q, h1, h2, h3, h4⟩ := h.row i hi; exact ⟨q, h1, g.cell h2 (by simp), g.cell h3 (by simp), g.cell h4 (by simp)⟩⟩
theorem take_rd {X : List Bg} {i : Nat} (h : i < X.length) : X.take i ++ [rd X i] = X.take (i + 1) := by
  rw [List.take_add_one, List.getElem?_eq_getElem h]
  unfold rd
  rw [List.getElem?_eq_getElem h]
  rfl
def leftB (n : Nat) (q : Value) : Nat := match q with | .int _ i => n - i.toNat | _ => 0
theorem leftB_nat (n i : Nat) : leftB n (.int .i64 (i : Int)) = n - i := by simp [leftB]
set_option maxRecDepth 100000 in
set_option maxHeartbeats 1000000 in
theorem vt_genV (Kp : World → World → Prop) (Iv : World → Prop) (n : Nat) (hn : 1 ≤ n) (l B : Nat) (so : Option Addr) (cap : Nat) (X : List Bg) (hX : X.length ≤ 65536) (J Jx : List Bg → World → Prop)
    (hY : ∀ pre (x : Bg) W, J pre W → pre ++ [x] <+: X → YieldAt Fence.wide (n - 1) Tryz.prog l (encB x) W fun e W' =>
      (e = .returned (.bool true) ∧ J (pre ++ [x]) W' ∧ Kp W W') ∨ (e = .returned (.bool false) ∧ Jx (pre ++ [x]) W'))
    (hIv : ∀ W, Iv W → ItB W B so cap X) (hkp : ∀ W W', Kp W W' → Iv W → Iv W') (hga : ∀ W W' : World, W.grownBy W' none → Iv W → Iv W') (hJa : ∀ pre (W W' : World), W.grownBy W' none → J pre W → J pre W') (W : World) (hI : Iv W) (h0 : J [] W) :
    CallsIn Fence.wide n Tryz.prog 145 #[.func (.yield l) #[] #[], .pointer (some ⟨B, 0, none⟩)] W fun e W' => (∃ v, e = .returned v) ∧
      ((∃ ys, ys = X ∧ J ys W') ∨ (∃ pre, Jx pre W')) := by
  refine callsIn_of_wp Tryz.func145 rfl trivial ?_ rfl
  simp only [Tryz.ntmps145, List.size_toArray, List.length_cons, List.length_nil, Nat.reduceAdd, Nat.reduceSub, Array.replicate_succ, Array.replicate_zero, List.push_toArray, List.append_toArray, List.nil_append, List.cons_append]
  have hc := cell_row (hIv _ hI).box 0
  simp at hc
  gi_wp2
  gi_loopw [7] (fun q wr => ∃ i : Nat, q = .int .i64 (i : Int) ∧ i ≤ X.length ∧ Hid (J (X.take i) wr ∧ Iv wr)) (fun q _ => leftB X.length q)
  case atStart => exact ⟨0, rfl, Nat.zero_le _, by rw [List.take_zero]; exact ⟨h0, hI⟩⟩
  case round =>
    obtain ⟨i, rfl, hi, HJ⟩ := hrel
    clear hc
    by_cases hlt : i < X.length
    · obtain ⟨g, rfl, c0, c1, c2⟩ := (hIv _ HJ.out.2).row i hlt
      have hle := (hIv _ HJ.out.2).le
      have ga := World.grownBy_alloc wr (.cells #[.int .u32 ((rd X i).i : Int), .int .i64 ((rd X i).s : Int), .int .i64 (rd X i).u] 108) none
      obtain ⟨fn, tmps, assign, body, hy, hR⟩ := hY (X.take i) (rd X i) _ (hJa _ _ _ ga HJ.out.1) (by rw [take_rd hlt]; exact List.take_prefix _ _)
      have nb : (wr.alloc (.cells #[.int .u32 ((rd X i).i : Int), .int .i64 ((rd X i).s : Int), .int .i64 (rd X i).u] 108)).heap[wr.heap.size]? = some (.cells [Value.int .u32 ((rd X i).i : Int), .int .i64 ((rd X i).s : Int), .int .i64 (rd X i).u].toArray 108 (0, 0)) := heap_alloc_new wr _
      have HT := hide (take_rd hlt)
      rw [HT.out] at hR
      have HI2 := hide (hga _ _ ga HJ.out.2)
      clear ga nb hi
      unfold encB bgV at hy
      generalize (rd X i).i = a at *
      generalize (rd X i).s = b at *
      generalize (rd X i).u = d at *
      have hil : ((i : Int) < (X.length : Int)) = True := by simp; omega
      gi_wp2
      refine hR.mono ?_
      rintro e W3 (⟨rfl, hJ3, hk3⟩ | ⟨rfl, hJx3⟩)
      · have H3 := hide (And.intro hJ3 (hkp _ _ hk3 HI2.out))
        clear hJ3 hk3
        have hw1 : IntKind.i64.wrap ((i : Int) + 1) = (i : Int) + 1 := by rw [IntKind.wrap_i64]; omega
        gi_wp2
        go_roundw
        case rel => exact ⟨i + 1, by simp, by omega, H3.out⟩
        case measure =>
          have e1 := leftB_nat X.length (i + 1)
          have e2 := leftB_nat X.length i
          rw [show ((i : Int) + 1) = (((i + 1 : Nat)) : Int) by omega, e1, e2]
          omega
      · gi_wp2
        refine bodyPost_ret (results_none rfl _ _ _) rfl ?_
        exact ⟨⟨_, rfl⟩, .inr ⟨_, hJx3⟩⟩
    · have hil : decide ((i : Int) < (X.length : Int)) = false := by simp; omega
      obtain rfl : i = X.length := by omega
      gi_wp2
      go_end0
      exact ⟨⟨_, rfl⟩, .inl ⟨_, rfl, by have := HJ.out.1; rw [List.take_length] at this; exact this⟩⟩
/-- Its blocks: they stay. -/
def vbk (B : Nat) (so : Option Addr) (n : Nat) (i : Nat) : Prop := i = B ∨ (n ≠ 0 ∧ ∃ a, so = some a ∧ i = a.block)
def KpB (Q : Nat → Prop) (W W' : World) : Prop := W.heap.size ≤ W'.heap.size ∧ ∀ i, Q i → i < W.heap.size → W'.heap[i]? = W.heap[i]?
theorem KpB.trans {Q : Nat → Prop} {a b c : World} (h : KpB Q a b) (k : KpB Q b c) : KpB Q a c := ⟨Nat.le_trans h.1 k.1, fun i hi hl => (k.2 i hi (Nat.lt_of_lt_of_le hl h.1)).trans (h.2 i hi hl)⟩
theorem KpB.of {Q X : Nat → Prop} {W W' : World} (k : Kept W W' X) (hX : ∀ i, Q i → ¬ X i) : KpB Q W W' := ⟨k.size, fun i hi hl => k.block i hl (hX i hi)⟩
theorem KpB.new {Q : Nat → Prop} {W W' : World} (g : W.grownBy W' none) : KpB Q W W' := KpB.of (Kept.new g (fun _ => False)) (fun _ _ e => e)
theorem KpB.put {Q : Nat → Prop} {W : World} {l : Nat} {o : Obj} (h : ¬ Q l) : KpB Q W (W.putObj l o) := KpB.of (Kept.of (grownBy_putObj' W l o) (S := fun i => i = l) (fun j e _ => (Option.some.inj e).symm)) (fun i hi e => h (by rw [← e]; exact hi))
theorem ItB.lt {W : World} {B : Nat} {so : Option Addr} {cap : Nat} {X : List Bg} (h : ItB W B so cap X) : ∀ i, vbk B so X.length i → i < W.heap.size := by
  rintro i (rfl | ⟨hn, a, ha, rfl⟩)
  · exact row_lt h.box
  · obtain ⟨q, h1, h2, _⟩ := h.row 0 (by omega)
    rw [h1] at ha
    cases ha
    unfold World.cell? at h2
    cases hq : W.heap[q]? with
    | none => simp [hq] at h2
    | some o => exact row_lt hq
theorem ItB.keep {W W' : World} {B : Nat} {so : Option Addr} {cap : Nat} {X : List Bg} (h : ItB W B so cap X) (k : KpB (vbk B so X.length) W W') : ItB W' B so cap X :=
  ⟨(k.2 _ (.inl rfl) (h.lt _ (.inl rfl))).trans h.box, h.le, fun i hi => by
    obtain ⟨q, h1, h2, h3, h4⟩ := h.row i hi
    have hq : vbk B so X.length q := .inr ⟨by omega, _, h1, rfl⟩
    have hb : W'.heap[q]? = W.heap[q]? := k.2 _ hq (h.lt _ hq)
    refine ⟨q, h1, ?_, ?_, ?_⟩
    · unfold World.cell? at h2 ⊢; simp only [hb]; exact h2
    · unfold World.cell? at h3 ⊢; simp only [hb]; exact h3
    · unfold World.cell? at h4 ⊢; simp only [hb]; exact h4⟩
theorem ItE_lt {W : World} {B : Nat} {so : Option Addr} {cap : Nat} {X : List (Nat × Int)} (h : Ix.ItE W B so cap X) : ∀ i, vbk B so X.length i → i < W.heap.size := by
  rintro i (rfl | ⟨hn, a, ha, rfl⟩)
  · exact row_lt h.box
  · obtain ⟨q, h1, h2, _⟩ := h.row 0 (by omega)
    rw [h1] at ha
    cases ha
    unfold World.cell? at h2
    cases hq : W.heap[q]? with
    | none => simp [hq] at h2
    | some o => exact row_lt hq
theorem ItE_keep {W W' : World} {B : Nat} {so : Option Addr} {cap : Nat} {X : List (Nat × Int)} (h : Ix.ItE W B so cap X) (k : KpB (vbk B so X.length) W W') : Ix.ItE W' B so cap X :=
  ⟨(k.2 _ (.inl rfl) (ItE_lt h _ (.inl rfl))).trans h.box, h.le, fun i hi => by
    obtain ⟨q, h1, h2, h3⟩ := h.row i hi
    have hq : vbk B so X.length q := .inr ⟨by omega, _, h1, rfl⟩
    have hb : W'.heap[q]? = W.heap[q]? := k.2 _ hq (ItE_lt h _ hq)
    refine ⟨q, h1, ?_, ?_⟩
    · unfold World.cell? at h2 ⊢; simp only [hb]; exact h2
    · unfold World.cell? at h3 ⊢; simp only [hb]; exact h3⟩
theorem vt_seqV (n : Nat) (hn : 1 ≤ n) (B : Nat) (so : Option Addr) (cap : Nat) (X : List Bg) (hX : X.length ≤ 65536) (W : World) (hI : ItB W B so cap X) :
    SeqV Fence.wide n Tryz.prog 145 #[.pointer (some ⟨B, 0, none⟩)] encB (KpB (vbk B so X.length)) (fun pre x _ => pre ++ [x] <+: X) (fun ys => ys = X) W := fun l J Jx hJ _hJx hY h0 =>
  vt_genV (KpB (vbk B so X.length)) (fun W => ItB W B so cap X) n hn l B so cap X hX J Jx hY (fun _ h => h) (fun _ _ k h => h.keep k) (fun _ _ g h => h.grown g) (fun pre A A' g h => hJ pre A A' h g) W hI h0
end Go.Proofs.YtinkkocleognbaaGreatDoor
