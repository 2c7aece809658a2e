/- Texts joined: Bk2, HpMap, HpHb, HpHc, HpHd, HpHe, HpHf. -/
import Derived.WalkKit
import Derived.Maps.OwnSet
import Derived.Shelf.SlMaps.Clone
import Derived.WalkSpells
import Derived.WalkLawsBesides
import Derived.Laws.CopyOwn
import Derived.Laws.Bits64b
import Derived.Laws.Bits64
import Derived.Deep.MidRow
import Derived.Deep.LoopGhost
import Derived.Deep.RegionHeld3
import Derived.Deep.DrawnRows
import Derived.Deep.QuietTactic
import Derived.Deep.RegionWith
import Derived.BigQuiet
import Derived.Deep.OwnRows
import Derived.Laws.AppendOwnNone
import Derived.Laws.BitsAllLaws
import Derived.Laws.OwnMore
import Derived.ArgAppend
import Derived.Maps.AppendAt
import Derived.Lib.SliceRun
import Derived.Defers
import Derived.Recover
import Derived.Test.YtjfhilignbeboabGreatDoorJzAc
import Derived.Lib.Builder
/- A book in memory: bookings as cells; find, untilOf. -/
namespace Go.Proofs.YtjfhilignbeboabGreatDoor
open Go.RowKit
attribute [local go_sem ↓] Go.wp_at_zero Go.wp_at_succ

/-- A booking as cells, as a value; bookings as cells. -/
def bgc (x : Bg) : List Value := [.int .u32 (x.i : Int), .int .i64 (x.s : Int), .int .i64 x.u]
def bgs (R : List Bg) : List Value := R.flatMap bgc
def bgV (x : Bg) : Value := .agg #[.int .u32 (x.i : Int), .int .i64 (x.s : Int), .int .i64 x.u]
def rd (R : List Bg) (s : Nat) : Bg := (R[s]?).getD default
theorem bgs_length (R : List Bg) : (bgs R).length = R.length * 3 := by
  induction R with
  | nil => rfl
  | cons x r ih => simp [bgs, bgc] at ih ⊢; omega
theorem bgs_cons (y : Bg) (r : List Bg) : bgs (y :: r) = .int .u32 (y.i : Int) :: .int .i64 (y.s : Int) :: .int .i64 y.u :: bgs r := by simp [bgs, bgc]
theorem bgs_get {R : List Bg} {i : Nat} (h : i < R.length) : (bgs R)[i * 3]? = some (.int .u32 ((rd R i).i : Int)) ∧ (bgs R)[i * 3 + 1]? = some (.int .i64 ((rd R i).s : Int)) ∧ (bgs R)[i * 3 + 2]? = some (.int .i64 (rd R i).u) := by
  induction R generalizing i with
  | nil => simp at h
  | cons y r ih =>
    rw [bgs_cons]
    cases i with
    | zero => simp [rd]
    | succ i =>
      have := ih (i := i) (by simpa using h)
      have e2 : rd (y :: r) (i + 1) = rd r i := by simp [rd]
      rw [e2, show (i + 1) * 3 = i * 3 + 3 by omega, show i * 3 + 3 + 1 = (i * 3 + 1) + 3 by omega, show i * 3 + 3 + 2 = (i * 3 + 2) + 3 by omega]
      simpa using this
theorem bgs_set {R : List Bg} {i : Nat} (y : Bg) : bgs (R.set i y) = (((bgs R).set (i * 3) (.int .u32 (y.i : Int))).set (i * 3 + 1) (.int .i64 (y.s : Int))).set (i * 3 + 2) (.int .i64 y.u) := by
  induction R generalizing i with
  | nil => simp [bgs]
  | cons z r ih =>
    cases i with
    | zero => simp [bgs_cons]
    | succ i =>
      rw [List.set_cons_succ, bgs_cons, bgs_cons, ih, show (i + 1) * 3 = i * 3 + 3 by omega, show i * 3 + 3 + 1 = (i * 3 + 1) + 3 by omega, show i * 3 + 3 + 2 = (i * 3 + 2) + 3 by omega]
      simp
theorem bgs_append (R R' : List Bg) : bgs (R ++ R') = bgs R ++ bgs R' := by simp [bgs]

/-- What find finds. -/
def fn (M : List (Nat × Int)) (R : List Bg) (k : Nat) : Bg := (Ix.lk M k).elim default fun s => rd R s.toNat
theorem fn_u (M : List (Nat × Int)) (R : List Bg) (k : Nat) : (fn M R k).u = tl M R k := by
  unfold fn tl; cases Ix.lk M k <;> rfl
/-- What find looks at. -/
structure Fd (w : World) (b sg : Nat) (ip : Ix.Ip) (M : List (Nat × Int)) (R : List Bg) : Prop where
  hd : ∃ cs : List Value, w.heap[b]? = some (.cells cs.toArray 77 (0, 0)) ∧ cs[7]? = some (.slice (some ⟨sg, 0, none⟩) R.length R.length) ∧ cs[8]? = some (.pointer (some ⟨ip.x, 0, none⟩))
  row : w.heap[sg]? = some (.cells (bgs R).toArray 34 (0, 0))
  ix : ∃ lo, Ix.Io w ip M lo
  in_ : ∀ y ∈ M, 0 ≤ y.2 ∧ y.2.toNat < R.length
  rb : R.length ≤ 1024
  nb : ¬ ip.own b
  ns : ¬ ip.own sg
section
variable {w w' : World} {b sg : Nat} {ip : Ix.Ip} {M : List (Nat × Int)} {R : List Bg}
theorem Fd.far {X : Nat → Prop} (h : Fd w b sg ip M R) (k : Kept w w' X) (hb : ¬ X b) (hs : ¬ X sg) (hi : ∀ i, ip.own i → ¬ X i) : Fd w' b sg ip M R := by
  obtain ⟨cs, h1, h2⟩ := h.hd
  obtain ⟨lo, h3⟩ := h.ix
  exact ⟨⟨cs, k.at h1 hb, h2⟩, k.at h.row hs, ⟨lo, h3.far k hi⟩, h.in_, h.rb, h.nb, h.ns⟩
theorem Fd.then (h : Fd w b sg ip M R) (k : w.grownBy w' none) : Fd w' b sg ip M R := h.far (Kept.new k (fun _ => False)) (fun e => e) (fun e => e) (fun _ _ e => e)
theorem Fd.cells (h : Fd w b sg ip M R) : w.cell? ⟨b, 7, none⟩ = some (.slice (some ⟨sg, 0, none⟩) R.length R.length) ∧ w.cell? ⟨b, 8, none⟩ = some (.pointer (some ⟨ip.x, 0, none⟩)) := by
  obtain ⟨cs, h1, h2, h3⟩ := h.hd
  rw [cell_row h1, cell_row h1]
  exact ⟨h2, h3⟩
theorem Fd.blt (h : Fd w b sg ip M R) : b < w.heap.size := by obtain ⟨cs, h1, _⟩ := h.hd; exact row_lt h1
theorem Fd.seat (h : Fd w b sg ip M R) {i : Nat} (hi : i < R.length) : w.cell? ⟨sg, i * 3, none⟩ = some (.int .u32 ((rd R i).i : Int)) ∧ w.cell? ⟨sg, i * 3 + 1, none⟩ = some (.int .i64 ((rd R i).s : Int)) ∧ w.cell? ⟨sg, i * 3 + 2, none⟩ = some (.int .i64 (rd R i).u) := by
  rw [cell_row h.row, cell_row h.row, cell_row h.row]
  exact bgs_get hi
theorem box3 {w : World} {g : Nat} {t : TypeId} {x y z : Value} (h : w.heap[g]? = some (.cells [x, y, z].toArray t (0, 0))) : w.cell? ⟨g, 0, none⟩ = some x ∧ w.cell? ⟨g, 1, none⟩ = some y ∧ w.cell? ⟨g, 2, none⟩ = some z ∧ (∀ j, w.frozen? ⟨g, j, none⟩ = false) :=
  ⟨cell_row h 0, cell_row h 1, cell_row h 2, fun j => free_row h j⟩
theorem Tryz.size34 : (Tryz.prog.info? 34).map (·.size) = some 3 := by kernel_rfl
theorem row3 (w : World) {g : Nat} {t : TypeId} {x y z : Value} (h : w.heap[g]? = some (.cells [x, y, z].toArray t (0, 0))) (a b c : Value) :
    (((w.setCell ⟨g, 0, none⟩ a).setCell ⟨g, 1, none⟩ b).setCell ⟨g, 2, none⟩ c).heap[g]? = some (.cells [a, b, c].toArray t (0, 0)) ∧ w.grownBy (((w.setCell ⟨g, 0, none⟩ a).setCell ⟨g, 1, none⟩ b).setCell ⟨g, 2, none⟩ c) (some g) :=
  ⟨row_setCell (row_setCell (row_setCell h 0 a) 1 b) 2 c, grown_trans (grown_trans (grown_setCell w g 0 a) (grown_setCell _ g 1 b)) (grown_setCell _ g 2 c)⟩
theorem load_bg {w : World} {g : Nat} {x : Bg} (hb : w.heap[g]? = some (.cells (bgc x).toArray 34 (0, 0))) : (loadVar 34 ⟨g, 0, none⟩).run Tryz.prog w = .ok (bgV x) w := by
  have h1 : w.rangeAt g 0 (bgc x) := fun j v hv => by rw [Nat.zero_add, cell_row hb]; exact hv
  exact run_loadVar_mid w g 0 34 (bgc x) _ h1 Tryz.underlying34 rfl (by rw [Tryz.size34]; rfl)
theorem results_cell_tmp1 {fn : Func} {p u : Tmp} {ty : TypeId} (h : fn.results = #[.cell p ty, .tmp u]) (tmps : Array Value) (P : Program) (w : World) :
    (results fn tmps).run P w =
      ((asAddr (tmps.getD p undef)).run P w).andThen fun a w₁ => ((loadVar ty a).run P w₁).andThen fun v w₂ => .ok (.tuple #[v, tmps.getD u undef]) w₂ := by
  simp only [results, h]
  simp [Sem.run_bind, Result.andThen]
theorem results_bg {fn : Func} {p u : Tmp} (h : fn.results = #[.cell p 34, .tmp u]) (tmps : Array Value) (w : World) (g : Nat) (x : Bg) (v : Value) (hp : tmps.getD p undef = .pointer (some ⟨g, 0, none⟩)) (hb : w.heap[g]? = some (.cells (bgc x).toArray 34 (0, 0))) (hv : tmps.getD u undef = v) :
    (results fn tmps).run Tryz.prog w = .ok (.tuple #[bgV x, v]) w := by
  rw [results_cell_tmp1 h, hp, hv]
  simp [asAddr, load_bg hb, Result.andThen]
set_option maxHeartbeats 2000000 in
theorem find_any (h : Fd w b sg ip M R) (k : Nat) (hk : k < 4294967296) : Calls Tryz.prog 42 #[.pointer (some ⟨b, 0, none⟩), .int .u32 (k : Int)] w fun e w' => e = .returned (.tuple #[bgV (fn M R k), .int .i64 (if (Ix.lk M k).isSome then 0 else 171)]) ∧ Fd w' b sg ip M R ∧ Kept w w' ip.own := by
  have C : Hid (∀ W, w.grownBy W none → Calls Tryz.prog 85 #[.pointer (some ⟨ip.x, 0, none⟩), .int .u32 (k : Int)] W fun e w' => e = .returned (.tuple #[.int .i64 ((Ix.lk M k).getD 0), .bool (Ix.lk M k).isSome]) ∧ Fd w' b sg ip M R ∧ Kept W w' ip.own) := by
    intro W hW
    obtain ⟨lo, h3⟩ := (h.then hW).ix
    refine (Ix.get_io h3 k hk).mono ?_
    rintro e w' ⟨rfl, h4, h5⟩
    have h6 := h.then hW
    obtain ⟨cs, c1, c2⟩ := h6.hd
    exact ⟨rfl, ⟨⟨cs, h5.at c1 h.nb, c2⟩, h5.at h6.row h.ns, ⟨true, h4⟩, h.in_, h.rb, h.nb, h.ns⟩, h5⟩
  obtain ⟨c7, c8⟩ := h.cells
  have hbne : ¬ b = w.heap.size := by have := h.blt; omega
  have x8 : ∀ o, (w.alloc o).cell? ⟨b, 8, none⟩ = some (.pointer (some ⟨ip.x, 0, none⟩)) := fun o => (grown_alloc w o).cell c8 (by simp)
  have hown : ∀ i, ip.own i → i < w.heap.size := by obtain ⟨lo, h3⟩ := h.ix; exact h3.lt
  have HO : Hid (∀ W : World, Fd W b sg ip M R → Kept (w.alloc (.cells #[.int .u32 0, .int .i64 0, .int .i64 0] 34)) W ip.own → W.heap[w.heap.size]? = some (.cells [Value.int .u32 0, .int .i64 0, .int .i64 0].toArray 34 (0, 0)) ∧ ∀ W', W.grownBy W' (some w.heap.size) → Fd W' b sg ip M R ∧ Kept w W' ip.own) := by
    intro W hF hW
    refine ⟨hW.at (heap_alloc_new w _) (fun e => Nat.lt_irrefl _ (hown _ e)), fun W' hg => ?_⟩
    have k1 : Kept W W' (fun i => i = w.heap.size) := Kept.of hg (fun _ e _ => (Option.some.inj e).symm)
    refine ⟨hF.far k1 hbne (fun e => ?_) (fun i hi e => ?_), ((Kept.new (grown_alloc w _) _).trans hW (fun _ _ e => e)).trans k1 (fun i hi e => absurd hi (by rw [e]; exact Nat.lt_irrefl _))⟩
    · have := row_lt h.row; omega
    · have := hown i hi; omega
  cases hq : Ix.lk M k with
  | none =>
    rw [hq] at C
    have e1 : fn M R k = ⟨0, 0, 0⟩ := by unfold fn; rw [hq]; rfl
    rw [e1]
    simp only [Option.isSome, Option.getD, Bool.false_eq_true, if_false] at C ⊢
    clear h c7 c8 hq e1
    go_enter Tryz.func42, Tryz.ntmps42
    go_wp2_with fail
    refine (C.out _ (grown_alloc w _)).mono ?_
    rintro e w1 ⟨rfl, h1, h2⟩
    obtain ⟨h3, h4⟩ := HO.out w1 h1 h2
    obtain ⟨d0, d1, d2, d3⟩ := box3 h3
    have HR := hide (And.intro h3 h4)
    clear h1 h2 x8 h3 h4 HO C
    go_wp2
    obtain ⟨r1, r2⟩ := row3 w1 HR.out.1 (.int .u32 0) (.int .i64 0) (.int .i64 0)
    exact bodyPost_ret (results_bg rfl _ _ w.heap.size ⟨0, 0, 0⟩ (.int .i64 171) rfl r1 rfl) rfl ⟨rfl, HR.out.2 _ r2⟩
  | some s =>
    rw [hq] at C
    have hm : (k, s) ∈ M := by obtain ⟨lo, h3⟩ := h.ix; exact (Ix.lk_some h3.asc).1 hq
    obtain ⟨s0, s1⟩ := h.in_ _ hm
    simp only at s0 s1
    have e1 : fn M R k = rd R s.toNat := by unfold fn; rw [hq]; rfl
    rw [e1]
    obtain ⟨t, rfl⟩ : ∃ t : Nat, s = (t : Int) := ⟨s.toNat, by omega⟩
    simp only [Option.isSome, Option.getD, if_true, Int.toNat_natCast] at C s1 ⊢
    have hrb := h.rb
    have HS : Hid (∀ W : World, Fd W b sg ip M R → W.cell? ⟨b, 7, none⟩ = some (.slice (some ⟨sg, 0, none⟩) R.length R.length) ∧ W.cell? ⟨sg, t * 3, none⟩ = some (.int .u32 ((rd R t).i : Int)) ∧ W.cell? ⟨sg, t * 3 + 1, none⟩ = some (.int .i64 ((rd R t).s : Int)) ∧ W.cell? ⟨sg, t * 3 + 2, none⟩ = some (.int .i64 (rd R t).u)) := fun W hW => ⟨hW.cells.1, hW.seat s1⟩
    clear h c7 c8 hq e1 hm s0
    generalize R.length = n at *
    generalize rd R t = x at *
    obtain ⟨xi, xs, xu⟩ := x
    simp only at HS
    go_enter Tryz.func42, Tryz.ntmps42
    go_wp2_with fail
    refine (C.out _ (grown_alloc w _)).mono ?_
    rintro e w1 ⟨rfl, h1, h2⟩
    obtain ⟨h3, h4⟩ := HO.out w1 h1 h2
    obtain ⟨d0, d1, d2, d3⟩ := box3 h3
    obtain ⟨y0, y1, y2, y3⟩ := HS.out w1 h1
    have HR := hide (And.intro h3 h4)
    clear h1 h2 x8 h3 h4 HO C HS
    go_wp2
    obtain ⟨r1, r2⟩ := row3 w1 HR.out.1 (.int .u32 (xi : Int)) (.int .i64 (xs : Int)) (.int .i64 xu)
    exact bodyPost_ret (results_bg rfl _ _ w.heap.size ⟨xi, xs, xu⟩ (.int .i64 0) rfl r1 rfl) rfl ⟨rfl, HR.out.2 _ r2⟩
set_option maxHeartbeats 2000000 in
theorem untilOf_any (h : Fd w b sg ip M R) (k : Nat) (hk : k < 4294967296) : Calls Tryz.prog 55 #[.pointer (some ⟨b, 0, none⟩), .int .u32 (k : Int)] w fun e w' => e = .returned (.int .i64 (tl M R k)) ∧ Fd w' b sg ip M R ∧ Kept w w' ip.own := by
  have C := hide (find_any h k hk)
  rw [← fn_u]
  clear h
  generalize (if (Ix.lk M k).isSome = true then (0 : Int) else 171) = er at *
  generalize fn M R k = x at *
  obtain ⟨xi, xs, xu⟩ := x
  unfold bgV at C
  simp only at C ⊢
  go_enter Tryz.func55, Tryz.ntmps55
  go_wp2_with fail
  refine C.out.mono ?_
  rintro e w1 ⟨rfl, h1, h2⟩
  have HR := hide (And.intro h1 h2)
  clear h1 h2 C
  go_wp2
  go_ret
  exact ⟨rfl, HR.out.1.then (grown_alloc _ _), HR.out.2.trans (Kept.new (grown_alloc _ _) _) (fun _ _ e => e)⟩
end
end Go.Proofs.YtjfhilignbeboabGreatDoor
/- A map keyed by ints, as what it answers at each key: plain lemmas, over any program. -/
namespace Go.Proofs.YtjfhilignbeboabGreatDoor.Hp
open Go.RowKit Go.Maps Go.MapKept Go.ChangeMaps

/-- An element is held as it is. -/
def valR (v : Value) : Option (DataW Value × List MemPlace) := some (.held v, [])
/-- Block b is a map of at most n entries that answers f. -/
def MapAt (w : World) (P : Program) (k : TypeId) (b n : Nat) (f : Int → Option Value) : Prop :=
  ∃ D : DataW Value, w.ownsMap P k valR b n D ∧ ∀ x, (f x = none → Maps.has D (.int .i64 x) = false) ∧ (∀ v, f x = some v → Maps.has D (.int .i64 x) = true ∧ ∀ z, D.atKey (.int .i64 x) z = .held v)

variable {P : Program} {k : TypeId} {w : World} {b n : Nat} {f : Int → Option Value}
theorem MapAt.lt (h : MapAt w P k b n f) : b < w.heap.size := by obtain ⟨D, h, _⟩ := h; exact h.lt
theorem MapAt.mono (h : MapAt w P k b n f) {n' : Nat} (hn : n ≤ n') : MapAt w P k b n' f := by
  obtain ⟨D, h, hf⟩ := h; exact ⟨D, h.mono hn, hf⟩
theorem MapAt.block (h : MapAt w P k b n f) : ∃ es clock, w.heap[b]? = some (.map es clock) := by
  obtain ⟨D, ⟨es, clock, h, _⟩, _⟩ := h; exact ⟨es, clock, h⟩
theorem MapAt.same (h : MapAt w P k b n f) {w' : World} (hb : w'.heap[b]? = w.heap[b]?) : MapAt w' P k b n f := by
  obtain ⟨D, ⟨es, clock, h1, h2⟩, hf⟩ := h; exact ⟨D, ⟨es, clock, hb.trans h1, h2⟩, hf⟩
theorem mapAt_made {b : Nat} {clock : Nat} (h : w.heap[b]? = some (.map #[] clock)) : MapAt w P k b 0 (fun _ => none) := by
  refine ⟨.map [], ⟨#[], clock, h, ⟨by simp, stamped_empty _, by simp⟩, Nat.le_refl _, rfl⟩, fun x => ⟨fun _ => rfl, fun v h => by cases h⟩⟩

theorem lit_ne {x y : Int} (h : x ≠ y) : Lit.int .i64 x ≠ Lit.int .i64 y := fun e => by cases e; exact h rfl

theorem MapAt.store {t e : TypeId} (h : MapAt w P k b n f) (hk : P.underlying k = some (.int .i64)) (ht : P.underlying t = some (.map k e)) (hn : n < maxLen) {x : Int} (hx : (Lit.int .i64 x).wf = true) (val : Value) :
    ∃ w', (Instr.mapUpdate t (.map (some b)) (.int .i64 x) val).run P w = .ok () w' ∧ MapAt w' P k b (n + 1) (fun y => if y = x then some val else f y) ∧ w.grownBy w' (some b) := by
  obtain ⟨D, hD, hf⟩ := h
  obtain ⟨w', hrun, hD', hg⟩ := hD.update (int_keyed hk) ht hn (keyOf_int_mk hk hx) (val := val) (d := .held val) (ps := []) rfl
  refine ⟨w', hrun, ⟨_, hD', fun y => ?_⟩, hg⟩
  have hK : WideAt.IsKeyLit (.int .i64 x) := by trivial
  by_cases hy : y = x
  · subst hy
    refine ⟨fun h => by simp at h, fun v h => ?_⟩
    simp at h
    subst h
    exact ⟨has_put_same hD.isMap hK _, fun z => atKey_put_same hD.isMap hK _ z⟩
  · show ((if y = x then some val else f y) = none → _) ∧ ∀ v, (if y = x then some val else f y) = some v → _
    rw [if_neg hy, has_put_other (lit_ne hy)]
    refine ⟨(hf y).1, fun v h => ⟨((hf y).2 v h).1, fun z => ?_⟩⟩
    rw [atKey_put_other (lit_ne hy)]
    exact ((hf y).2 v h).2 z

end Go.Proofs.YtjfhilignbeboabGreatDoor.Hp
/- What stays; a map's delete; what less is. -/
namespace Go.Proofs.YtjfhilignbeboabGreatDoor.Hp
open Go.RowKit

open Go.Maps Go.MapKept Go.ChangeMaps in
theorem MapAt.drop {P : Program} {k : TypeId} {w : World} {b n : Nat} {f : Int → Option Value} {t e : TypeId} (h : MapAt w P k b n f) (hk : P.underlying k = some (.int .i64)) (ht : P.underlying t = some (.map k e)) {x : Int} (hx : (Lit.int .i64 x).wf = true) (ty : TypeId) :
    ∃ w', (Builtin.delete_ #[t, k] ty #[.map (some b), .int .i64 x]).run P w = .ok (.tuple #[]) w' ∧ MapAt w' P k b n (fun y => if y = x then none else f y) ∧ w.grownBy w' (some b) := by
  obtain ⟨D, hD, hf⟩ := h
  obtain ⟨w', hrun, hD', hg⟩ := hD.drop (int_keyed hk) ht (keyOf_int_mk hk hx) ty
  refine ⟨w', hrun, ⟨_, hD', fun y => ?_⟩, hg.grown⟩
  by_cases hy : y = x
  · subst hy
    exact ⟨fun _ => has_del_same, fun v h => by simp at h⟩
  · show ((if y = x then none else f y) = none → _) ∧ ∀ v, (if y = x then none else f y) = some v → _
    rw [if_neg hy, has_del_other (lit_ne hy)]
    refine ⟨(hf y).1, fun v h => ⟨((hf y).2 v h).1, fun z => ?_⟩⟩
    rw [atKey_del_other (lit_ne hy)]
    exact ((hf y).2 v h).2 z
theorem MapAt.congr {P : Program} {k : TypeId} {w : World} {b n : Nat} {f g : Int → Option Value} (h : MapAt w P k b n f) (e : ∀ x, f x = g x) : MapAt w P k b n g := by
  rw [← show f = g from funext e]; exact h

/-- A less that is kept: its function, what it holds, what it answers, of which items it may be asked, what must be so, the blocks it looks at, those that it may write. -/
structure Les where
  k : Nat
  cap : Array Value
  lt : Int → Int → Bool
  ok : Int → Prop
  I : World → Prop
  F : Nat → Prop
  S : Nat → Prop
structure Les.Ok (L : Les) : Prop where
  kind : L.k = 54 ∧ ∃ a, L.cap = #[.pointer (some a)]
  call : ∀ a b w, L.I w → L.ok a → L.ok b → Calls Tryz.prog L.k (#[.int .u32 a, .int .u32 b] ++ L.cap) w fun e w' => e = .returned (.bool (L.lt a b)) ∧ L.I w' ∧ Kept w w' L.S
  keep : ∀ (w w' : World) (X : Nat → Prop), L.I w → Kept w w' X → (∀ i, X i → ¬ L.F i) → L.I w'
  below : ∀ (w : World) i, L.I w → L.F i → i < w.heap.size
  sub : ∀ i, L.S i → L.F i
def Les.fv (L : Les) : Value := .func (.func L.k) #[] L.cap
/-- The heap's own cells. -/
def hpc (L : Les) (h : Nat) (N : Int) (ve vl : Value) (mb : Nat) : List Value := [.pointer (some ⟨h, 0, none⟩), L.fv, .bool false, .int .i64 N, ve, vl, .map (some mb)]
theorem idle_any (p : Addr) (h : Nat) (w : World) (hp : w.cell? p = some (.pointer (some ⟨h, 0, none⟩))) (hc : ∃ v, w.cell? ⟨h, 2, none⟩ = some v) (hz : w.frozen? ⟨h, 2, none⟩ = false) :
    CallsD Tryz.prog 145 #[.pointer (some p)] .returning w fun e u' w' => e = .returned (.tuple #[]) ∧ u' = .returning ∧ w' = w.setCell ⟨h, 2, none⟩ (.bool false) := by
  obtain ⟨v, hc⟩ := hc
  refine callsD_of_wpS Tryz.func145 rfl fun c₀ cs hu => ?_
  apply wpS_seq
  apply wpS_region
  simp [wpOpsS, go_sem, recoverD, hu, Tryz.ntmps145, Exit.thenS, hp, hc, hz]
  apply wpS_region
  cases c₀
  simp_all [wpOpsS, go_sem, recoverD, bodyPostS, results, Tryz.results145]
end Go.Proofs.YtjfhilignbeboabGreatDoor.Hp
/- less, asked. -/
namespace Go.Proofs.YtjfhilignbeboabGreatDoor.Hp
open Go.RowKit
attribute [local go_sem ↓] Go.wp_at_zero Go.wp_at_succ
set_option maxHeartbeats 2000000 in
theorem ask_any (L : Les) (hL : L.Ok) (h : Nat) (N : Int) (ve vl : Value) (mb : Nat) (a b : Int) (w : World) (hh : w.heap[h]? = some (.cells (hpc L h N ve vl mb).toArray 163 (0, 0))) (hI : L.I w) (ha : L.ok a) (hb : L.ok b) (hF : ¬ L.F h) :
    Calls Tryz.prog 136 #[.pointer (some ⟨h, 0, none⟩), .int .u32 a, .int .u32 b] w fun e w' => e = .returned (.bool (L.lt a b)) ∧ L.I w' ∧ Kept w w' L.S := by
  have hmf : ∀ (fn : Fn) (first cap : Array Value) (w : World), (Instr.makeFunc fn first cap).run Tryz.prog w = .ok (.func fn first cap) w := fun _ _ _ _ => rfl
  have ga := World.grownBy_alloc w (.cells #[.pointer (some ⟨h, 0, none⟩)] 74) none
  have hne : ¬ h = w.heap.size := by have := row_lt hh; omega
  have hh1 := (ga.block _ (row_lt hh) (by simp)).trans hh
  have c1 : (w.alloc (.cells #[.pointer (some ⟨h, 0, none⟩)] 74)).cell? ⟨h, 1, none⟩ = some (.func (.func L.k) #[] L.cap) := by rw [cell_row hh1]; rfl
  have c2 : (w.alloc (.cells #[.pointer (some ⟨h, 0, none⟩)] 74)).cell? ⟨h, 2, none⟩ = some (.bool false) := by rw [cell_row hh1]; rfl
  have f2 : (w.alloc (.cells #[.pointer (some ⟨h, 0, none⟩)] 74)).frozen? ⟨h, 2, none⟩ = false := free_row hh1 2
  have HC : Hid (∀ w1, L.I w1 → Calls Tryz.prog L.k (#[.int .u32 a, .int .u32 b] ++ L.cap) w1 fun e w' => e = .returned (.bool (L.lt a b)) ∧ L.I w' ∧ Kept w1 w' L.S) := fun w1 h1 => hL.call a b w1 h1 ha hb
  have HI := hide (And.intro hh (And.intro hI (And.intro hh1 ga)))
  clear hh hI hh1 ga
  have HEnd : Hid (∀ w2 : World, L.I w2 → Kept ((w.alloc (.cells #[.pointer (some ⟨h, 0, none⟩)] 74)).setCell ⟨h, 2, none⟩ (.bool true)) w2 L.S → w2.cell? ⟨w.heap.size, 0, none⟩ = some (.pointer (some ⟨h, 0, none⟩)) ∧ w2.cell? ⟨h, 2, none⟩ = some (.bool true) ∧ w2.frozen? ⟨h, 2, none⟩ = false ∧ L.I (w2.setCell ⟨h, 2, none⟩ (.bool false)) ∧ Kept w (w2.setCell ⟨h, 2, none⟩ (.bool false)) L.S) := by
    intro w2 hI2 hk2
    have hnS : ¬ L.S h := fun e => hF (hL.sub _ e)
    have hnw : ¬ L.S w.heap.size := fun e => by have := hL.below w _ HI.out.2.1 (hL.sub _ e); omega
    have b1 := row_setCell HI.out.2.2.1 2 (.bool true)
    have b2 := hk2.at b1 hnS
    have n1 : ((w.alloc (.cells #[.pointer (some ⟨h, 0, none⟩)] 74)).setCell ⟨h, 2, none⟩ (.bool true)).heap[w.heap.size]? = some (.cells [Value.pointer (some ⟨h, 0, none⟩)].toArray 74 (0, 0)) := (Below.heap_setCell _ _ _ _ (fun e => hne e.symm)).trans (heap_alloc_new w _)
    have n2 := hk2.at n1 hnw
    have b3 := row_setCell b2 2 (.bool false)
    refine ⟨cell_row n2 0, cell_row b2 2, free_row b2 2, hL.keep _ _ _ hI2 (kept_setCell w2 h 2 _) (fun i e => by rw [e]; exact hF), ?_⟩
    have k1 : Kept w (w2.setCell ⟨h, 2, none⟩ (.bool false)) (fun i => L.S i ∨ i = h) := (((Kept.new HI.out.2.2.2 _).trans (kept_setCell _ h 2 (.bool true)) (fun i _ e => .inr e)).trans hk2 (fun i _ e => .inl e)).trans (kept_setCell _ h 2 _) (fun i _ e => .inr e)
    refine ⟨k1.os, k1.tape, k1.output, k1.size, fun i hi hn => ?_⟩
    by_cases e : i = h
    · subst e
      rw [b3, HI.out.1]
      rfl
    · exact k1.block i hi (fun h1 => h1.elim hn e)
  have HIa : Hid (L.I ((w.alloc (.cells #[.pointer (some ⟨h, 0, none⟩)] 74)).setCell ⟨h, 2, none⟩ (.bool true))) := hL.keep _ _ _ HI.out.2.1 ((Kept.new HI.out.2.2.2 (fun i => i = h)).trans (kept_setCell _ h 2 _) (fun _ _ e => e)) (fun i e => by rw [e]; exact hF)
  obtain ⟨e1, p1, e2⟩ := hL.kind
  rw [e1, e2] at c1 HC
  have HC1 : Hid (∀ w1, L.I w1 → Calls Tryz.prog 54 #[.int .u32 a, .int .u32 b, .pointer (some p1)] w1 fun e w' => e = .returned (.bool (L.lt a b)) ∧ L.I w' ∧ Kept w1 w' L.S) := HC
  all_goals
    clear HC e1 e2
    have hc1 := HC1.out _ HIa.out
    go_enter_defers Tryz.func136, Tryz.ntmps136
    go_wp2_with fail
    refine hc1.mono ?_
    clear hc1
    rintro e w2 ⟨rfl, hI2, hk2⟩
    obtain ⟨q1, q2, q3, q4, q5⟩ := HEnd.out w2 hI2 hk2
    have HQ := hide (And.intro q4 q5)
    clear HEnd HIa HI HC1 q4 q5 hk2 hI2
    go_wp2
    refine leaves_cons (f := 145) (args := #[.pointer (some ⟨w.heap.size, 0, none⟩)]) (by simp) (by simp [go_sem]) ?_
    refine (idle_any ⟨w.heap.size, 0, none⟩ h w2 q1 ⟨_, q2⟩ q3).mono ?_
    rintro e u' w3 ⟨rfl, rfl, rfl⟩
    exact ⟨_, results_tmp rfl _ _ _, rfl, HQ.out⟩
end Go.Proofs.YtjfhilignbeboabGreatDoor.Hp
/- A heap in memory; which of two items comes first. -/
namespace Go.Proofs.YtjfhilignbeboabGreatDoor.Hp
open Go.RowKit
attribute [local go_sem ↓] Go.wp_at_zero Go.wp_at_succ
/-- Where a heap lies. -/
structure Hp where
  h : Nat
  ve : Value
  vl : Value
  mb : Nat
def Hp.own (p : Hp) (i : Nat) : Prop := i = p.h ∨ p.ve.ownBlock = some i ∨ p.vl.ownBlock = some i ∨ i = p.mb
def ecells (E : List (Nat × Int)) : List Value := E.flatMap fun e => [.int .i64 (e.1 : Int), .int .u32 e.2]
def tcells (T : List Nat) : List Value := T.map fun (t : Nat) => Value.int .i64 (t : Int)
theorem tcells_length (T : List Nat) : (tcells T).length = T.length := by simp [tcells]
theorem ecells_snoc (E : List (Nat × Int)) (x : Nat × Int) : ecells (E ++ [x]) = ecells E ++ [.int .i64 (x.1 : Int), .int .u32 x.2] := by simp [ecells]
theorem tcells_snoc (T : List Nat) (x : Nat) : tcells (T ++ [x]) = tcells T ++ [.int .i64 (x : Int)] := by simp [tcells]
theorem ecells_get {E : List (Nat × Int)} {i : Nat} (h : i < E.length) : (ecells E)[i * 2]? = some (.int .i64 ((en E i).1 : Int)) ∧ (ecells E)[i * 2 + 1]? = some (.int .u32 (en E i).2) := by
  induction E generalizing i with
  | nil => simp at h
  | cons y r ih =>
    cases i with
    | zero => simp [ecells, en]
    | succ i =>
      have := ih (i := i) (by simpa using h)
      have e : ecells (y :: r) = .int .i64 (y.1 : Int) :: .int .u32 y.2 :: ecells r := by simp [ecells]
      have e2 : en (y :: r) (i + 1) = en r i := by simp [en]
      rw [e, e2, show (i + 1) * 2 = i * 2 + 2 by omega, show i * 2 + 2 + 1 = (i * 2 + 1) + 2 by omega]
      simpa using this
theorem tcells_get {T : List Nat} {i : Nat} (h : i < T.length) : (tcells T)[i]? = some (.int .i64 (tn T i : Int)) := by simp [tcells, tn, h]
/-- What the map answers. -/
def plf (E : List (Nat × Int)) : Int → Option Value := fun x => (E.findIdx? (fun e => (e.1 : Int) == x)).map fun i => .int .i64 (i : Int)
structure HpAt (w : World) (L : Les) (p : Hp) (E : List (Nat × Int)) (T : List Nat) (N B : Nat) : Prop where
  head : w.heap[p.h]? = some (.cells (hpc L p.h (N : Int) p.ve p.vl p.mb).toArray 163 (0, 0))
  ent : w.ownsRow 0 167 2 p.ve E.length (ecells E)
  lst : w.ownsRow 0 3 1 p.vl T.length (tcells T)
  map : MapAt w Tryz.prog 3 p.mb B (plf E)
  inv : L.I w
  off : ∀ i, p.own i → ¬ L.F i
theorem row_same {w w' : World} {e : TypeId} {size : Nat} {v : Value} {n : Nat} {xs : List Value} (h : w.ownsRow 0 e size v n xs) (hb : ∀ g, v.ownBlock = some g → w'.heap[g]? = w.heap[g]?) : w'.ownsRow 0 e size v n xs := by
  obtain ⟨h1, h⟩ := h
  refine ⟨h1, ?_⟩
  rcases h with h | ⟨g, cap, cur, rfl, h2, h3, h4⟩
  · exact Or.inl h
  · exact Or.inr ⟨g, cap, cur, rfl, h2, (hb g rfl).trans h3, h4⟩
theorem en_mem {E : List (Nat × Int)} {i : Nat} (h : i < E.length) : en E i ∈ E := by
  unfold en
  rw [List.getElem?_eq_getElem h]
  exact List.getElem_mem h
section
variable {w w' : World} {L : Les} {p : Hp} {E : List (Nat × Int)} {T : List Nat} {N B : Nat}
theorem HpAt.lt (h : HpAt w L p E T N B) : ∀ i, p.own i → i < w.heap.size := by
  rintro i (rfl | hi | hi | rfl)
  · exact row_lt h.head
  · exact (h.ent.lt i hi).2
  · exact (h.lst.lt i hi).2
  · exact h.map.lt
/-- What happens elsewhere leaves it as it is. -/
theorem HpAt.far {X : Nat → Prop} (h : HpAt w L p E T N B) (k : Kept w w' X) (hX : ∀ i, p.own i → ¬ X i) (hI : L.I w') : HpAt w' L p E T N B :=
  ⟨k.at h.head (hX _ (.inl rfl)), row_same h.ent (fun g hg => k.block g (h.lt g (.inr (.inl hg))) (hX g (.inr (.inl hg)))), row_same h.lst (fun g hg => k.block g (h.lt g (.inr (.inr (.inl hg)))) (hX g (.inr (.inr (.inl hg))))), h.map.same (k.block _ h.map.lt (hX _ (.inr (.inr (.inr rfl))))), hI, h.off⟩
theorem HpAt.less (hL : L.Ok) (h : HpAt w L p E T N B) (k : Kept w w' L.S) (hI : L.I w') : HpAt w' L p E T N B := h.far k (fun i hi e => h.off i hi (hL.sub i e)) hI
theorem HpAt.then (hL : L.Ok) (h : HpAt w L p E T N B) (g : w.grownBy w' none) : HpAt w' L p E T N B :=
  h.far (X := fun _ => False) (Kept.new g _) (fun _ _ e => e) (hL.keep w w' (fun _ => False) h.inv (Kept.new g _) (fun _ e => e.elim))
/-- A row that is not empty: where it lies. -/
theorem own_row {w : World} {e : TypeId} {size : Nat} {v : Value} {n : Nat} {xs : List Value} (h : w.ownsRow 0 e size v n xs) (hn : 0 < n) : ∃ g cap, ∃ cur : List Value, v = .slice (some ⟨g, 0, none⟩) n cap ∧ w.heap[g]? = some (.cells cur.toArray e (0, 0)) ∧ n ≤ cap ∧ cap ≤ maxLen ∧ cur.length = cap * size ∧ cur.take (n * size) = xs := by
  rcases h.2 with ⟨_, h0⟩ | ⟨g, cap, cur, hv, hb, hg, hn, hm, hs, ht⟩
  · omega
  · exact ⟨g, cap, cur.toList, hv, by simpa using hg, hn, hm, by simpa using hs, ht⟩
theorem own_cell {w : World} {g : Nat} {cur xs : List Value} {e : TypeId} {n : Nat} (hg : w.heap[g]? = some (.cells cur.toArray e (0, 0))) (ht : cur.take n = xs) {j : Nat} {u : Value} (h : xs[j]? = some u) : w.cell? ⟨g, j, none⟩ = some u := by
  rw [cell_row hg]
  rw [← ht, List.getElem?_take] at h
  split at h
  · exact h
  · cases h
theorem HpAt.cells (h : HpAt w L p E T N B) : w.cell? ⟨p.h, 0, none⟩ = some (.pointer (some ⟨p.h, 0, none⟩)) ∧ w.cell? ⟨p.h, 1, none⟩ = some L.fv ∧ w.cell? ⟨p.h, 2, none⟩ = some (.bool false) ∧ w.cell? ⟨p.h, 3, none⟩ = some (.int .i64 (N : Int)) ∧ w.cell? ⟨p.h, 4, none⟩ = some p.ve ∧ w.cell? ⟨p.h, 5, none⟩ = some p.vl ∧ w.cell? ⟨p.h, 6, none⟩ = some (.map (some p.mb)) :=
  ⟨cell_row h.head 0, cell_row h.head 1, cell_row h.head 2, cell_row h.head 3, cell_row h.head 4, cell_row h.head 5, cell_row h.head 6⟩
theorem two_new (w : World) (a b c d : Value) (t : TypeId) {w2 : World} (h : ((w.alloc (.cells #[a, b] t)).alloc (.cells #[c, d] t)).drew = w2) : w.grownBy w2 none ∧ w2.cell? ⟨w.heap.size, 0, none⟩ = some a ∧ w2.cell? ⟨w.heap.size, 1, none⟩ = some b ∧ w2.cell? ⟨w.heap.size + 1, 0, none⟩ = some c ∧ w2.cell? ⟨w.heap.size + 1, 1, none⟩ = some d := by
  subst h
  have g1 := World.grownBy_alloc w (.cells #[a, b] t) none
  have g2 := World.grownBy_alloc (w.alloc (.cells #[a, b] t)) (.cells #[c, d] t) none
  have b1 : (w.alloc (.cells #[a, b] t)).heap[w.heap.size]? = some (.cells [a, b].toArray t (0, 0)) := heap_alloc_new w _
  have b2 : ((w.alloc (.cells #[a, b] t)).alloc (.cells #[c, d] t)).heap[(w.alloc (.cells #[a, b] t)).heap.size]? = some (.cells [c, d].toArray t (0, 0)) := heap_alloc_new _ _
  have b1' := (g2.block _ (row_lt b1) (by simp)).trans b1
  rw [World.size_alloc] at b2
  exact ⟨grown_trans (grown_trans g1 g2) (grown_drew _ none), cell_row b1' 0, cell_row b1' 1, cell_row b2 0, cell_row b2 1⟩
set_option maxHeartbeats 2000000 in
theorem ahead_any (hL : L.Ok) (h : HpAt w L p E T N B) (a b : Nat) (ha : a < E.length) (hb : b < E.length) (hok : ∀ e ∈ E, L.ok e.2) :
    Calls Tryz.prog 119 #[.pointer (some ⟨p.h, 0, none⟩), .int .i64 (a : Int), .int .i64 (b : Int)] w fun e w' => e = .returned (.bool (ah L.lt (en E a) (en E b))) ∧ L.I w' ∧ Kept w w' L.S := by
  obtain ⟨-, -, -, -, c4, -, -⟩ := h.cells
  obtain ⟨g, cap, cur, hv, hg, hn, hm, hs, ht⟩ := own_row h.ent (by omega)
  rw [hv] at c4
  have a0 := own_cell hg ht (ecells_get ha).1
  have a1 := own_cell hg ht (ecells_get ha).2
  have b0 := own_cell hg ht (ecells_get hb).1
  have b1 := own_cell hg ht (ecells_get hb).2
  obtain ⟨n, hnn⟩ : ∃ n, n = E.length := ⟨_, rfl⟩
  have ha' := ha
  have hb' := hb
  rw [← hnn] at ha hb c4 hn
  have HI := hide (And.intro h hnn)
  have gz1 : ¬ g = w.heap.size := by have := row_lt hg; omega
  have gz2 : ¬ g = w.heap.size + 1 := by have := row_lt hg; omega
  have pz1 : ¬ p.h = w.heap.size := by have := row_lt h.head; omega
  have pz2 : ¬ p.h = w.heap.size + 1 := by have := row_lt h.head; omega
  have x0 : ∀ u v, (w.alloc (.cells #[u, v] 167)).cell? ⟨p.h, 4, none⟩ = some (Value.slice (some ⟨g, 0, none⟩) n cap) := fun u v => (World.grownBy_alloc w (.cells #[u, v] 167) none).cell c4 (by simp)
  have y0 : ∀ u v u2 v2, ((w.alloc (.cells #[u, v] 167)).alloc (.cells #[u2, v2] 167)).cell? ⟨p.h, 4, none⟩ = some (Value.slice (some ⟨g, 0, none⟩) n cap) := fun u v u2 v2 => (World.grownBy_alloc _ (.cells #[u2, v2] 167) none).cell (x0 u v) (by simp)
  have x1 : ∀ u v, (w.alloc (.cells #[u, v] 167)).cell? ⟨g, a * 2, none⟩ = some (.int .i64 ((en E a).1 : Int)) := fun u v => (World.grownBy_alloc w (.cells #[u, v] 167) none).cell a0 (by simp)
  have y1 : ∀ u v u2 v2, ((w.alloc (.cells #[u, v] 167)).alloc (.cells #[u2, v2] 167)).cell? ⟨g, a * 2, none⟩ = some (.int .i64 ((en E a).1 : Int)) := fun u v u2 v2 => (World.grownBy_alloc _ (.cells #[u2, v2] 167) none).cell (x1 u v) (by simp)
  have x2 : ∀ u v, (w.alloc (.cells #[u, v] 167)).cell? ⟨g, a * 2 + 1, none⟩ = some (.int .u32 (en E a).2) := fun u v => (World.grownBy_alloc w (.cells #[u, v] 167) none).cell a1 (by simp)
  have y2 : ∀ u v u2 v2, ((w.alloc (.cells #[u, v] 167)).alloc (.cells #[u2, v2] 167)).cell? ⟨g, a * 2 + 1, none⟩ = some (.int .u32 (en E a).2) := fun u v u2 v2 => (World.grownBy_alloc _ (.cells #[u2, v2] 167) none).cell (x2 u v) (by simp)
  have x3 : ∀ u v, (w.alloc (.cells #[u, v] 167)).cell? ⟨g, b * 2, none⟩ = some (.int .i64 ((en E b).1 : Int)) := fun u v => (World.grownBy_alloc w (.cells #[u, v] 167) none).cell b0 (by simp)
  have y3 : ∀ u v u2 v2, ((w.alloc (.cells #[u, v] 167)).alloc (.cells #[u2, v2] 167)).cell? ⟨g, b * 2, none⟩ = some (.int .i64 ((en E b).1 : Int)) := fun u v u2 v2 => (World.grownBy_alloc _ (.cells #[u2, v2] 167) none).cell (x3 u v) (by simp)
  have x4 : ∀ u v, (w.alloc (.cells #[u, v] 167)).cell? ⟨g, b * 2 + 1, none⟩ = some (.int .u32 (en E b).2) := fun u v => (World.grownBy_alloc w (.cells #[u, v] 167) none).cell b1 (by simp)
  have y4 : ∀ u v u2 v2, ((w.alloc (.cells #[u, v] 167)).alloc (.cells #[u2, v2] 167)).cell? ⟨g, b * 2 + 1, none⟩ = some (.int .u32 (en E b).2) := fun u v u2 v2 => (World.grownBy_alloc _ (.cells #[u2, v2] 167) none).cell (x4 u v) (by simp)
  clear h hnn hg ht hv hs
  have HO : Hid (L.ok (en E a).2 ∧ L.ok (en E b).2) := ⟨hok _ (en_mem ha'), hok _ (en_mem hb')⟩
  have HAsk : Hid (∀ (w2 : World) (x y : Int), w.grownBy w2 none → L.ok x → L.ok y → Calls Tryz.prog 136 #[.pointer (some ⟨p.h, 0, none⟩), .int .u32 x, .int .u32 y] w2 fun e w' => e = .returned (.bool (L.lt x y)) ∧ L.I w' ∧ Kept w w' L.S) := by
    intro w2 x y hg hx hy
    refine (ask_any L hL p.h N p.ve p.vl p.mb x y w2 (HI.out.1.then hL hg).head (HI.out.1.then hL hg).inv hx hy (HI.out.1.off _ (.inl rfl))).mono ?_
    rintro e w' ⟨rfl, h1, h2⟩
    exact ⟨rfl, h1, (Kept.new hg _).trans h2 (fun _ _ e => e)⟩
  clear hok
  generalize hX : en E a = X at *
  generalize hY : en E b = Y at *
  obtain ⟨r, hr⟩ : ∃ r, r = ah L.lt X Y := ⟨_, rfl⟩
  rw [← hr]
  have HR := hide hr
  clear hr hX hY
  go_enter Tryz.func119, Tryz.ntmps119
  go_wp2
  go_region
  all_goals
    clear c4 a0 a1 b0 b1 x0 x1 x2 x3 x4 y0 y1 y2 y3 y4
    generalize hw2 : (World.alloc (World.alloc w _) _).drew = w2
    obtain ⟨g2, d0, d1, d2, d3⟩ := two_new w _ _ _ _ _ hw2
    have HG := hide g2
    clear g2 hw2
    by_cases hlt : (X.1 : Int) < (Y.1 : Int)
    · have hr2 : r = !(L.lt Y.2 X.2) := by rw [HR.out]; unfold ah; rw [if_pos (by omega)]
      have HR2 := hide hr2
      clear hr2
      go_wp2_with fail
      refine (HAsk.out w2 _ _ HG.out HO.out.2 HO.out.1).mono ?_
      rintro e w3 ⟨rfl, h1, h2⟩
      generalize L.lt Y.2 X.2 = q at *
      go_wp2
      go_ret
      exact ⟨by rw [HR2.out]; rfl, h1, h2⟩
    · have hr2 : r = L.lt X.2 Y.2 := by rw [HR.out]; unfold ah; rw [if_neg (by omega)]
      have HR2 := hide hr2
      clear hr2
      go_wp2_with fail
      refine (HAsk.out w2 _ _ HG.out HO.out.1 HO.out.2).mono ?_
      rintro e w3 ⟨rfl, h1, h2⟩
      generalize L.lt X.2 Y.2 = q at *
      go_wp2
      go_ret
      exact ⟨by rw [HR2.out]; rfl, h1, h2⟩
end
end Go.Proofs.YtjfhilignbeboabGreatDoor.Hp
/- From a place up to the top. -/
namespace Go.Proofs.YtjfhilignbeboabGreatDoor.Hp
open Go.RowKit
attribute [local go_sem ↓] Go.wp_at_zero Go.wp_at_succ
theorem above_any (j : Nat) (w : World) (h1 : j < 1000000000) : Calls Tryz.prog 118 #[.int .i64 (j : Int)] w fun e w' => e = .returned (.int .i64 (((((j + 1) / 2 : Nat) : Int)) - 1)) ∧ w' = w := by
  have e1 : ((j : Int) + 1).tdiv 2 = (((j + 1) / 2 : Nat) : Int) := by rw [Int.tdiv_eq_ediv_of_nonneg (by omega)]; omega
  go_enter Tryz.func118, Tryz.ntmps118
  go_wp2
  go_ret
  exact ⟨rfl, rfl⟩
section
variable {w w' : World} {L : Les} {p : Hp} {E : List (Nat × Int)} {T : List Nat} {N B : Nat}
theorem tcells_set {T : List Nat} {i x : Nat} : tcells (T.set i x) = (tcells T).set i (.int .i64 (x : Int)) := by simp [tcells, List.map_set]
/-- A place's least one, written. -/
theorem HpAt.put (hL : L.Ok) (h : HpAt w L p E T N B) {g cap : Nat} (hv : p.vl = .slice (some ⟨g, 0, none⟩) T.length cap) {j : Nat} (hj : j < T.length) (x : Nat) : HpAt (w.setCell ⟨g, j, none⟩ (.int .i64 (x : Int))) L p E (T.set j x) N B ∧ Kept w (w.setCell ⟨g, j, none⟩ (.int .i64 (x : Int))) (fun i => p.vl.ownBlock = some i) := by
  obtain ⟨g', cap', cur, hv', hg, hn, hm, hs, ht⟩ := own_row h.lst (by omega)
  rw [hv] at hv'
  cases hv'
  have hown : p.vl.ownBlock = some g := by rw [hv]; rfl
  have k0 := kept_setCell w g j (.int .i64 (x : Int))
  have k1 : Kept w (w.setCell ⟨g, j, none⟩ (.int .i64 (x : Int))) (fun i => p.vl.ownBlock = some i) := k0.mono (fun i _ e => by rw [e]; exact hown)
  have hgh : g ≠ p.h := fun e => by have := h.head; rw [← e, hg] at this; simp at this
  have hgm : g ≠ p.mb := fun e => by obtain ⟨es, ck, hm⟩ := h.map.block; rw [← e, hg] at hm; cases hm
  refine ⟨⟨k0.at h.head (fun e => hgh e.symm), row_same h.ent (fun q hq => k0.block q (h.ent.lt q hq).2 (fun e => ?_)), ?_, h.map.same (k0.block _ h.map.lt (fun e => hgm e.symm)), hL.keep _ _ _ h.inv k0 (fun i e => by rw [e]; exact h.off _ (.inr (.inr (.inl hown)))), h.off⟩, k1⟩
  · subst e
    rcases h.ent.2 with ⟨hq2, _⟩ | ⟨g2, c2, cu2, hq2, hq3, hq4, _⟩
    · rw [hq2] at hq; cases hq
    · rw [hq2] at hq; cases hq; rw [hg] at hq4; simp at hq4
  · rw [List.length_set]
    refine ⟨by simp [tcells_length], Or.inr ⟨g, cap, (cur.set j (.int .i64 (x : Int))).toArray, hv, Nat.zero_le _, row_setCell hg j _, hn, hm, by simpa using hs, ?_⟩⟩
    rw [tcells_set, ← ht]
    simp [List.take_set]
set_option maxHeartbeats 4000000 in
theorem settle_any (hL : L.Ok) (h : HpAt w L p E T N B) (hT : T.length = E.length) (hE : E.length ≤ 100000) (k : Nat) (hk : k ≤ E.length) (hin : ∀ b, b < E.length → ¬ Pth k b → tn T b < E.length) (hok : ∀ e ∈ E, L.ok e.2) :
    Calls Tryz.prog 105 #[.pointer (some ⟨p.h, 0, none⟩), .int .i64 ((k : Int) - 1)] w fun e w' => e = .returned (.tuple #[]) ∧ HpAt w' L p E (stl L.lt E T k) N B ∧ Kept w w' (fun i => L.S i ∨ p.vl.ownBlock = some i) := by
  have HO := hide (And.intro hok hin)
  have HT := hide hT
  have HH := hide h
  clear hok h hT hin
  generalize hn : E.length = n at *
  have HN := hide hn
  clear hn
  go_enter Tryz.func105, Tryz.ntmps105
  go_wp2
  go_loopg [1] k (fun q v wr => v = .int .i64 ((q : Int) - 1) ∧ q ≤ n ∧ Hid (∃ Tr, Tr.length = n ∧ HpAt wr L p E Tr N B ∧ stl L.lt E Tr q = stl L.lt E T k ∧ (∀ b, b < n → ¬ Pth q b → tn Tr b < n) ∧ Kept w wr (fun i => L.S i ∨ p.vl.ownBlock = some i)))
  case atStart => exact ⟨rfl, hk, T, HT.out, HH.out, rfl, HO.out.2, Kept.refl _ _⟩
  case round =>
    obtain ⟨rfl, hqn, HR⟩ := hrel
    rcases Nat.eq_zero_or_pos gk with hz | hz
    · subst hz
      go_wp2
      go_end0
      obtain ⟨Tr, h1, h2, h3, h4, h5⟩ := HR.out
      rw [stl_zero] at h3
      rw [h3] at h2
      exact ⟨rfl, h2, h5⟩
    · obtain ⟨j, rfl⟩ : ∃ j, gk = j + 1 := ⟨gk - 1, by omega⟩
      rw [show (((j + 1 : Nat) : Int)) - 1 = (j : Int) by omega]
      obtain ⟨Tr, h1, h2, h3, h4, h5⟩ := HR.out
      have HR1 := hide (And.intro h1 (And.intro h2 (And.intro h3 (And.intro h4 h5))))
      clear HR h1 h2 h3 h4 h5
      go_wp2
      go_loopg [4, 5] 2 (fun q l v ws => Hid (HpAt ws L p E Tr N B ∧ Kept wr ws L.S) ∧ ∃ b m : Nat, v = .int .i64 (b : Int) ∧ l = .int .i64 (m : Int) ∧ Hid ((q = 2 ∧ b = 2 * j + 1 ∧ m = j) ∨ (q = 1 ∧ 2 * j + 1 < n ∧ b = 2 * j + 2 ∧ m = lwA L.lt E Tr j) ∨ (q = 0 ∧ 2 * j + 2 < n ∧ b = 2 * j + 3 ∧ m = lw L.lt E Tr j)))
      case atStart => exact ⟨⟨HR1.out.2.1, Kept.refl _ _⟩, 2 * j + 1, j, by simp, rfl, .inl ⟨rfl, rfl, rfl⟩⟩
      case round =>
        obtain ⟨HS, b, m, rfl, rfl, HB⟩ := hrel
        have hb1 : 2 * j + 1 ≤ b ∧ b ≤ 2 * j + 3 ∧ b = 2 * j + 3 - gk ∧ gk ≤ 2 := by rcases HB.out with ⟨e1, e2, _⟩ | ⟨e1, _, e2, _⟩ | ⟨e1, _, e2, _⟩ <;> omega
        obtain ⟨hb1, hb2, hb3, hb4⟩ := hb1
        have HB3 := hide hb3
        clear hb3
        have hsub : ∀ c, 2 * j + 1 ≤ c → c < n → tn Tr c < n := fun c h1 h2 => HR1.out.2.2.2.1 c h2 (fun e => by have := e.le; omega)
        have hmn : m < n := by
          rcases HB.out with ⟨_, _, e3⟩ | ⟨_, e0, _, e3⟩ | ⟨_, e0, _, e3⟩
          · omega
          · rw [e3]
            rcases lwA_or (lt := L.lt) (E := E) (T := Tr) j with e | ⟨e1, e2⟩
            · rw [e]; omega
            · rw [e2]; exact hsub _ (by omega) e0
          · rw [e3]
            rcases lw_or (lt := L.lt) (E := E) (T := Tr) j with e | ⟨e1, e2⟩ | ⟨e1, e2⟩
            · rw [e]; omega
            · rw [e2]; exact hsub _ (by omega) (by omega)
            · rw [e2]; exact hsub _ (by omega) e0
        obtain ⟨-, -, -, -, c4, c5, -⟩ := HS.out.1.cells
        obtain ⟨ge, cape, cure, hve, -, -, -, -, -⟩ := own_row HS.out.1.ent (by have := HN.out; omega)
        obtain ⟨gl, capl, curl, hvl, hgl, hnl, -, -, htl⟩ := own_row HS.out.1.lst (by have := HR1.out.1; omega)
        rw [hve, HN.out] at c4
        rw [hvl, HR1.out.1] at c5
        rw [HR1.out.1] at hnl
        by_cases hbn : b < n ∧ b < 2 * j + 3
        · obtain ⟨hbn, hbj⟩ := hbn
          have cb := own_cell hgl htl (tcells_get (T := Tr) (i := b) (by have := HR1.out.1; omega))
          have htb := hsub b hb1 hbn
          have hah := ahead_any hL HS.out.1 (tn Tr b) m (by rw [HN.out]; exact htb) (by rw [HN.out]; exact hmn) HO.out.1
          have HL := hide (And.intro hvl hgl)
          clear hve hvl hgl htl hsub
          generalize htb2 : tn Tr b = tb at *
          have HTB := hide htb2
          clear htb2
          have hstep : ∀ m', m' = lw1 L.lt E Tr m b → (gk - 1 = 2 ∧ b + 1 = 2 * j + 1 ∧ m' = j) ∨ (gk - 1 = 1 ∧ 2 * j + 1 < n ∧ b + 1 = 2 * j + 2 ∧ m' = lwA L.lt E Tr j) ∨ (gk - 1 = 0 ∧ 2 * j + 2 < n ∧ b + 1 = 2 * j + 3 ∧ m' = lw L.lt E Tr j) := by
            intro m' hm'
            rcases HB.out with ⟨e1, e2, e3⟩ | ⟨e1, e0, e2, e3⟩ | ⟨e1, _, e2, e3⟩
            · refine .inr (.inl ⟨by omega, by omega, by omega, ?_⟩)
              unfold lwA
              rw [if_pos (by rw [HN.out]; omega), hm', e2, e3]
            · refine .inr (.inr ⟨by omega, by omega, by omega, ?_⟩)
              unfold lw
              rw [if_pos (by rw [HN.out]; omega), hm', e2, e3]
            · omega
          have HSt := hide hstep
          clear hstep
          by_cases hm3 : n < 2 * j + 3
          all_goals
            go_wp2_with fail
            refine hah.mono ?_
            clear hah
            rintro e w3 ⟨rfl, hI3, hk3⟩
            have HS3 : Hid (HpAt w3 L p E Tr N B ∧ Kept wr w3 L.S) := ⟨HS.out.1.less hL hk3 hI3, hk3⟩
            have HK := hide (HS.out.2.trans hk3 (fun _ _ e => e))
            clear hI3 hk3 c4 c5 cb
            cases hr : ah L.lt (en E tb) (en E m) with
            | true =>
              have HM := hide (HSt.out tb (by unfold lw1; rw [HTB.out, hr]; rfl))
              clear hr
              go_wp2
              go_roundg (gk - 1)
              case measure => have := HB3.out; omega
              case rel => exact ⟨⟨HS3.out.1, HK.out⟩, b + 1, tb, by simp, rfl, HM.out⟩
            | false =>
              have HM := hide (HSt.out m (by unfold lw1; rw [HTB.out, hr]; rfl))
              clear hr
              go_wp2
              go_roundg (gk - 1)
              case measure => have := HB3.out; omega
              case rel => exact ⟨⟨HS3.out.1, HK.out⟩, b + 1, m, by simp, rfl, HM.out⟩
        · have hml : m = lw L.lt E Tr j := by
            rcases HB.out with ⟨e1, e2, e3⟩ | ⟨e1, e0, e2, e3⟩ | ⟨e1, _, e2, e3⟩
            · unfold lw lwA
              rw [if_neg (by rw [HN.out]; omega), if_neg (by rw [HN.out]; omega)]
              exact e3
            · unfold lw
              rw [if_neg (by rw [HN.out]; omega)]
              exact e3
            · exact e3
          have cj := own_cell hgl htl (tcells_get (T := Tr) (i := j) (by have := HR1.out.1; omega))
          have fj : wr.frozen? ⟨gl, j, none⟩ = false := free_row hgl j
          have hput := HpAt.put hL HS.out.1 hvl (j := j) (by have := HR1.out.1; omega) m
          have HP := hide hput
          have HML := hide hml
          clear hput hml hve hvl hgl htl hsub HB
          have hjn : j < n := by omega
          have hnot : ¬ b < n ∨ ¬ b < 2 * j + 3 := by omega
          clear hbn
          by_cases hm3 : n < 2 * j + 3
          case' pos =>
            have hnb : ¬ b < n := by omega
          case' neg =>
            have hnb : ¬ b < 2 * j + 3 := by omega
          all_goals
            clear hnot
            have hab := above_any j (wr.setCell ⟨gl, j, none⟩ (.int .i64 (m : Int))) (by omega)
            generalize hk2 : (j + 1) / 2 = k2 at *
            have HK2 := hide hk2
            clear hk2
            go_wp2_with fail
            refine hab.mono ?_
            clear hab cj fj c4 c5
            rintro e w4 ⟨rfl, hw4⟩
            have HW := hide hw4
            clear hw4
            go_wp2
            go_roundg k2
            case measure => have := HK2.out; omega
            case rel =>
              refine ⟨rfl, by have := HK2.out; omega, Tr.set j m, by rw [List.length_set]; exact HR1.out.1, by rw [HW.out]; exact HP.out.1, ?_, ?_, ?_⟩
              · rw [← HR1.out.2.2.1, stl_step _ _ _ (Nat.succ_pos j), HML.out, HK2.out]
                rfl
              · intro c hc hp
                by_cases hcj : j = c
                · subst hcj
                  rw [tn_set_self (by rw [HR1.out.1]; exact hc)]
                  exact hmn
                · rw [tn_set_other hcj]
                  refine HR1.out.2.2.2.1 c hc (fun e => ?_)
                  rcases e.cases with e | e
                  · omega
                  · rw [HK2.out] at e; exact hp e
              · rw [HW.out]
                exact (HR1.out.2.2.2.2.trans HS.out.2 (fun _ _ e => .inl e)).trans HP.out.2 (fun _ _ e => .inr e)
end
end Go.Proofs.YtjfhilignbeboabGreatDoor.Hp
/- What is asked of a heap. -/
namespace Go.Proofs.YtjfhilignbeboabGreatDoor.Hp
open Go.RowKit
attribute [local go_sem ↓] Go.wp_at_zero Go.wp_at_succ
/-- Where the item of a handle lies. -/
def fi (E : List (Nat × Int)) (x : Int) : Option Nat := E.findIdx? (fun e => (e.1 : Int) == x)
theorem fi_lt {E : List (Nat × Int)} {x : Int} {i : Nat} (h : fi E x = some i) : i < E.length ∧ ((en E i).1 : Int) = x := by
  unfold fi at h
  rw [List.findIdx?_eq_some_iff_getElem] at h
  obtain ⟨h1, h2, _⟩ := h
  refine ⟨h1, ?_⟩
  unfold en
  rw [List.getElem?_eq_getElem h1]
  simpa using h2
theorem wf_i64 {s : Int} (h0 : -9223372036854775808 ≤ s) (h1 : s ≤ 9223372036854775807) : (Lit.int .i64 s).wf = true := by
  simp [Lit.wf, IntKind.min, IntKind.max, IntKind.signed, IntKind.bits]; omega
section
variable {w w' : World} {L : Les} {p : Hp} {E : List (Nat × Int)} {T : List Nat} {N B : Nat}
theorem own_form {w : World} {e : TypeId} {sz n : Nat} {v : Value} {xs : List Value} (h : w.ownsRow 0 e sz v n xs) : ∃ vo cap, v = .slice vo n cap ∧ n ≤ cap := by
  rcases h.2 with ⟨rfl, rfl⟩ | ⟨g, cap, cur, hv, hb, hg, hn, _⟩
  · exact ⟨none, 0, rfl, Nat.le_refl _⟩
  · exact ⟨_, cap, hv, hn⟩
set_option maxRecDepth 20000 in
theorem none_at (h : HpAt w L p E T N B) : Calls Tryz.prog 104 #[.pointer (some ⟨p.h, 0, none⟩)] w fun e w' => e = .returned (.bool false) ∧ w' = w := by
  obtain ⟨c0, -, c2, -, -, -, -⟩ := h.cells
  have hsome : (Tryz.prog.info? 163).isSome = true := by kernel_rfl
  obtain ⟨j, hj⟩ := Option.isSome_iff_exists.1 hsome
  have hs := Go.Lib.run_neq_ptr_same (P := Tryz.prog) (tp := 74) (te := 163) w ⟨p.h, 0, none⟩ Tryz.underlying74 hj
  clear h hsome hj
  go_enter Tryz.func104, Tryz.ntmps104
  go_wp2
  go_ret
  exact ⟨rfl, rfl⟩
end
end Go.Proofs.YtjfhilignbeboabGreatDoor.Hp
