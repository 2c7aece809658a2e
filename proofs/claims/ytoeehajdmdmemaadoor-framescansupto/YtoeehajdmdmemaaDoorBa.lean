/- The walk of FrameBack: its helpers. -/
import Derived.Test.YtoeehajdmdmemaaDoorTl
import Derived.Test.YtoeehajdmdmemaaDoorGe
namespace Go.Proofs.YtoeehajdmdmemaaDoor
open Go.RowKit
attribute [local go_sem ↓] Go.wp_at_zero Go.wp_at_succ

/-- A list of rows of bytes that came in: where each row's header lies, and its bytes. -/
structure RwC (w : World) (blk off j : Nat) (ys : List Int) : Prop where
  is : ∃ bo bc, w.cell? ⟨blk, off + j, none⟩ = some (.slice bo ys.length bc) ∧ At w bo ys ∧ (bo = none → ys.length = 0 ∧ bc = 0) ∧ ys.length ≤ bc ∧ bc ≤ maxLen
  byt : Byt ys
  sm : ys.length ≤ 140737488351232
def RwsAt (w : World) (ao : Option Addr) (rows : List (List Int)) : Prop := ∀ j ys, rows[j]? = some ys → ∃ blk off, ao = some ⟨blk, off, none⟩ ∧ RwC w blk off j ys
theorem RwC.grown {w w' : World} {blk off j : Nat} {ys : List Int} (h : RwC w blk off j ys) (hg : w.grownBy w' none) : RwC w' blk off j ys := by
  obtain ⟨bo, bc, h1, h2, h3⟩ := h.is
  exact ⟨⟨bo, bc, hg.cell h1 (by simp), h2.kept hg (fun _ _ e => by cases e), h3⟩, h.byt, h.sm⟩
theorem RwsAt.grown {w w' : World} {ao : Option Addr} {rows : List (List Int)} (h : RwsAt w ao rows) (hg : w.grownBy w' none) : RwsAt w' ao rows := fun j ys hy => by
  obtain ⟨blk, off, e, hc⟩ := h j ys hy
  exact ⟨blk, off, e, hc.grown hg⟩

/-- Inside FrameBack's loop, behind the frames pre: the bytes of all, the frames, their places. -/
structure BkS (w W : World) (va vw vp : Value) (E S : Int) (pre : List El) : Prop where
  all : W.ownsRow w.heap.size 5 1 va (fend (frs pre)) ((outs (frs pre)).map (Value.int .u8))
  want : FsAt W w.heap.size vw pre
  pla : W.ownsRow w.heap.size 3 1 vp pre.length (ints (plc (frs pre)))
  gr : w.grownBy W none
  chn : Chn E S (frs pre)
  dis : ∀ k, va.ownBlock = some k → ∀ y ∈ pre, y.v.ownBlock ≠ some k
theorem BkS.nil (w : World) (E S : Int) : BkS w w (.slice none 0 0) (.slice none 0 0) (.slice none 0 0) E S [] :=
  ⟨World.ownsRow_nil _ _ _ _, FsAt.nil _ _, World.ownsRow_nil _ _ _ _, grown_refl _ _, (fun i f h => by simp [frs] at h), (fun k hk => by simp [Value.ownBlock] at hk)⟩
theorem BkS.grown {w W W' : World} {va vw vp : Value} {E S : Int} {pre : List El} (h : BkS w W va vw vp E S pre) (hg : W.grownBy W' none) : BkS w W' va vw vp E S pre :=
  ⟨own_grown h.all hg, h.want.grown hg, own_grown h.pla hg, grown_trans h.gr hg, h.chn, h.dis⟩
end Go.Proofs.YtoeehajdmdmemaaDoor
