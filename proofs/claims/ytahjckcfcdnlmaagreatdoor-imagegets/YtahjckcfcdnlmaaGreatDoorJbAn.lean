/- Texts joined: BkO, La, BkR, BkW, BkX, OcNum. -/
import Derived.Test.YtahjckcfcdnlmaaGreatDoorJbAm
import Derived.Test.YtahjckcfcdnlmaaGreatDoorCards
import Derived.Test.YtahjckcfcdnlmaaGreatDoorTie
import Derived.ProofKit
import Derived.OpenShut
import Derived.Deep.DeepHandedRow
import Derived.Lib.LaidTab
import Derived.ChangeOld
import Derived.SizedLaws
import Derived.Laws.BitsAllLaws
/- A book in the midst of a law: beside boxes of the law's own. -/
namespace Go.Proofs.YtahjckcfcdnlmaaGreatDoor
open Go.RowKit
attribute [local go_sem ↓] Go.wp_at_zero Go.wp_at_succ
attribute [local go_sem] Oper.semAt_some
/-- A book at b, made since w, beside boxes. -/
structure Lk (w W : World) (b : Nat) (S : Sb) (K : Nat) (p : Bp) (Bs : List (Nat × List Value × TypeId)) : Prop where
  eb : p.b = b
  bk : BkAt W p S K
  gr : w.grownBy W none
  own : ∀ i, p.own i → w.heap.size ≤ i
  bx : ∀ x ∈ Bs, W.heap[x.1]? = some (.cells x.2.1.toArray x.2.2 (0, 0)) ∧ ¬ p.own x.1 ∧ w.heap.size ≤ x.1
section
variable {w W W' : World} {b : Nat} {S S' : Sb} {K K' : Nat} {p q : Bp} {Bs : List (Nat × List Value × TypeId)}
theorem Lk.kept (h : Lk w W b S K p Bs) (k : Kept W W' p.own) : w.grownBy W' none :=
  ((Kept.new h.gr (fun i => w.heap.size ≤ i)).trans k (fun i _ e => h.own i e)).grown (fun i hi e => by omega)
theorem Lk.step (h : Lk w W b S K p Bs) (k : Bst W W' p q) (hb : BkAt W' q S' K') : Lk w W' b S' K' q Bs :=
  ⟨k.b.trans h.eb, hb, h.kept k.kept, fun i hi => by
    rcases k.own i hi with e | e
    · exact h.own i e
    · exact Nat.le_trans h.gr.size e, fun x hx => by
    obtain ⟨h1, h2, h3⟩ := h.bx x hx
    refine ⟨k.kept.at h1 h2, fun e => ?_, h3⟩
    rcases k.own _ e with e | e
    · exact h2 e
    · have := row_lt h1; omega⟩
theorem Lk.then (h : Lk w W b S K p Bs) (g : W.grownBy W' none) : Lk w W' b S K p Bs := h.step (Bst.grown g p) (h.bk.then g)
theorem Lk.drew (h : Lk w W b S K p Bs) : Lk w W.drew b S K p Bs := h.then (grown_drew W none)
theorem Lk.box (h : Lk w W b S K p Bs) (cs : List Value) (ty : TypeId) : Lk w (W.alloc (.cells cs.toArray ty)) b S K p ((W.heap.size, cs, ty) :: Bs) := by
  have h1 := h.then (grown_alloc W (.cells cs.toArray ty))
  refine ⟨h1.eb, h1.bk, h1.gr, h1.own, fun x hx => ?_⟩
  rcases List.mem_cons.1 hx with rfl | hx
  · exact ⟨heap_alloc_new W _, fun e => Nat.lt_irrefl _ (h.bk.lt _ e), h.gr.size⟩
  · exact h1.bx x hx
theorem Lk.sub {Cs : List (Nat × List Value × TypeId)} (h : Lk w W b S K p Bs) (hs : ∀ x ∈ Cs, x ∈ Bs) : Lk w W b S K p Cs := ⟨h.eb, h.bk, h.gr, h.own, fun x hx => h.bx x (hs x hx)⟩
theorem Lk.bare (h : Lk w W b S K p Bs) : Lk w W b S K p [] := h.sub (fun x hx => by cases hx)
theorem Lk.more (h : Lk w W b S K p Bs) (hk : K ≤ K') : Lk w W b S K' p Bs := ⟨h.eb, h.bk.mono hk, h.gr, h.own, h.bx⟩
theorem Lk.put {X : Nat} {cs : List Value} {ty : TypeId} (h : Lk w W b S K p [(X, cs, ty)]) (j : Nat) (v : Value) : Lk w (W.setCell ⟨X, j, none⟩ v) b S K p [(X, cs.set j v, ty)] := by
  obtain ⟨h1, h2, h3⟩ := h.bx (X, cs, ty) (by simp)
  refine ⟨h.eb, h.bk.far (kept_setCell W X j v) (fun i hi e => h2 (by rw [← e]; exact hi)), grown_then h.gr (grown_setCell W X j v) (fun i e => .inl (by cases e; exact h3)), h.own, fun x hx => ?_⟩
  simp only [List.mem_singleton] at hx
  subst hx
  exact ⟨row_setCell h1 j v, h2, h3⟩
theorem Lk.cell {X : Nat} {cs : List Value} {ty : TypeId} (h : Lk w W b S K p Bs) (hm : (X, cs, ty) ∈ Bs) (j : Nat) (v : Value) (hv : cs[j]? = some v) : W.cell? ⟨X, j, none⟩ = some v := by
  rw [cell_row (h.bx _ hm).1]; exact hv
theorem Lk.free {X : Nat} {cs : List Value} {ty : TypeId} (h : Lk w W b S K p Bs) (hm : (X, cs, ty) ∈ Bs) (j : Nat) : W.frozen? ⟨X, j, none⟩ = false := free_row (h.bx _ hm).1 j
theorem Lk.apply (h : Lk w W b S K p Bs) (ho : S.Ok) (hK : K ≤ 10000000) (hT : Rk.Tab w) (r : Rc) (hr : r.Ok) : Calls Tryz.prog 12 #[.pointer (some ⟨b, 0, none⟩), Rk.rcV r] W fun e w' => e = .returned (.int .i64 (appE S r)) ∧ ∃ q, Lk w w' b (app S r) (K + 1) q Bs ∧ Bst W w' p q := by
  have := apply_any h.bk ho hK r hr (hT.grown h.gr (by simp))
  rw [h.eb] at this
  refine this.mono ?_
  rintro e w' ⟨rfl, q, h1, h2⟩
  exact ⟨rfl, q, h.step h2 h1, h2⟩
theorem Lk.len (h : Lk w W b S K p Bs) : Calls Tryz.prog 13 #[.pointer (some ⟨b, 0, none⟩)] W fun e w' => e = .returned (.int .i64 (S.L.length : Int)) ∧ w' = W := by
  have := len_any h.bk; rw [h.eb] at this; exact this
theorem Lk.next (h : Lk w W b S K p Bs) : Calls Tryz.prog 31 #[.pointer (some ⟨b, 0, none⟩)] W fun e w' => e = .returned (.int .u32 (S.n : Int)) ∧ w' = W := by
  have := next_any h.bk; rw [h.eb] at this; exact this
theorem Lk.clock (h : Lk w W b S K p Bs) : Calls Tryz.prog 32 #[.pointer (some ⟨b, 0, none⟩)] W fun e w' => e = .returned (.int .i64 S.t) ∧ w' = W := by
  have := clock_any h.bk; rw [h.eb] at this; exact this
theorem Lk.all (h : Lk w W b S K p Bs) (hw : S.Wk) : Calls Tryz.prog 33 #[.pointer (some ⟨b, 0, none⟩)] W fun e w' => ∃ u, e = .returned u ∧ VlV w' W.heap.size u S.L ∧ Lk w w' b S K p Bs := by
  have := all_any h.bk hw; rw [h.eb] at this
  refine this.mono ?_
  rintro e w' ⟨u, rfl, h1, h2⟩
  exact ⟨u, rfl, h1, h.then h2⟩
end
theorem Sb.Ok.new {a b c : Nat} (h : Gx.OkS a b c) : Sb.Ok ⟨a, b, c, 1, 0, []⟩ := by
  obtain ⟨h1, h2, h3, h4, h5, h6⟩ := h
  exact ⟨by simp only; omega, by simp only; omega, by simp only; omega, by simp only; omega, by simp only; omega, by simp only; omega, by simp only; omega, by simp only; omega, by simp only; omega, by simp only [mxC]; omega, List.Pairwise.nil, (fun x hx => by cases hx), (fun x hx => by cases hx), List.Pairwise.nil, (fun x hx => by cases hx), by simp⟩
/-- Records that lie somewhere. -/
def RecsAt (w : World) (ao : Option Addr) (rs : List Rc) : Prop := ∀ j r, rs[j]? = some r → ∃ blk off, ao = some (⟨blk, off, none⟩ : Addr) ∧ w.cell? ⟨blk, off + j * 5, none⟩ = some (.int .i64 r.k) ∧ w.cell? ⟨blk, off + j * 5 + 1, none⟩ = some (.int .u32 r.i) ∧ w.cell? ⟨blk, off + j * 5 + 2, none⟩ = some (.int .i64 r.s) ∧ w.cell? ⟨blk, off + j * 5 + 3, none⟩ = some (.int .i64 r.u) ∧ w.cell? ⟨blk, off + j * 5 + 4, none⟩ = some (.int .i64 r.c)
theorem RecsAt.grown {w w' : World} {ao : Option Addr} {os : List Rc} (h : RecsAt w ao os) (g : w.grownBy w' none) : RecsAt w' ao os := by
  intro j o hj
  obtain ⟨b, off, e, h1, h2, h3, h4, h5⟩ := h j o hj
  exact ⟨b, off, e, g.cell h1 (by simp), g.cell h2 (by simp), g.cell h3 (by simp), g.cell h4 (by simp), g.cell h5 (by simp)⟩
def S0 : Sb := ⟨3, 2, 1, 1, 0, []⟩
def S1 : Sb := ⟨3, 2, 1, 2, 0, [⟨1, 0, 10⟩]⟩
def S2 : Sb := ⟨3, 2, 1, 2, 10, []⟩
theorem S0_ok : S0.Ok := Sb.Ok.new (by decide)
theorem app0 : appE S0 ⟨1, 1, 0, 10, 0⟩ = 0 ∧ app S0 ⟨1, 1, 0, 10, 0⟩ = S1 := ⟨by decide, rfl⟩
theorem app1 : appE S1 ⟨1, 2, 0, 10, 0⟩ = 170 ∧ app S1 ⟨1, 2, 0, 10, 0⟩ = S1 := ⟨by decide, rfl⟩
theorem app2 : appE S1 ⟨5, 0, 0, 0, 10⟩ = 0 ∧ app S1 ⟨5, 0, 0, 0, 10⟩ = S2 := ⟨by decide, rfl⟩
theorem S1_ok : S1.Ok := by rw [← app0.2]; exact S0_ok.app _
end Go.Proofs.YtahjckcfcdnlmaaGreatDoor
/- What the rows' listed table gives; a world for the witnesses; arguments that are rows of bytes, records: shared by the rows' proofs. -/
namespace Go.Proofs.YtahjckcfcdnlmaaGreatDoor
open Go.ChangeShapes Go.WideShapes Go.ChangeAt Go.RowKit Go.Deep

theorem seat_own : ownKnob Tryz.prog.godebug = none := by kernel_rfl
theorem seat_laid : laidOutB Tryz.prog = true := by kernel_rfl
theorem gTab : Tryz.prog.globalNamed "gangway/records.fieldsOf" = some 0 := by kernel_rfl
theorem gTabType : (Tryz.prog.globals[0]?).map (·.type) = some 150 := by kernel_rfl
theorem cells160 : Tryz.prog.cellsOf 150 = 24 := by kernel_rfl
theorem cells159 : Tryz.prog.cellsOf 149 = 4 := by kernel_rfl
theorem cells4 : Tryz.prog.cellsOf 4 = 1 := by kernel_rfl
theorem cellsOf46 : Tryz.prog.cellsOf 43 = 5 := by kernel_rfl
theorem cellsOf44 : Tryz.prog.cellsOf 41 = 1 := by kernel_rfl
theorem cellsOf24 : Tryz.prog.cellsOf 30 = 1 := by kernel_rfl
theorem cellsOf3 : Tryz.prog.cellsOf 3 = 1 := by kernel_rfl
theorem cellsOf2 : Tryz.prog.cellsOf 2 = 1 := by kernel_rfl
theorem listOf4 {α : Type} {l : List α} (h : l.length = 4) : ∃ a b c d, l = [a, b, c, d] := by
  match l, h with
  | [a, b, c, d], _ => exact ⟨a, b, c, d, rfl⟩
theorem listOf5 {α : Type} {l : List α} (h : l.length = 5) : ∃ a b c d e, l = [a, b, c, d, e] := by
  match l, h with
  | [a, b, c, d, e], _ => exact ⟨a, b, c, d, e, rfl⟩
variable {H : Type} {enc : TypeId × Value → H}
/-- Four bools that read as such lie so. -/
theorem cells_fields {w : World} {base : Nat} {sp : Nat → Bool} {held : Bool} {fuel : Nat} {cs : List Value} {a b c d : Bool} {p : List MemPlace}
    (h : DataW.trod enc Tryz.prog w base sp held fuel 149 cs = some (.agg [.lit (.bool a), .lit (.bool b), .lit (.bool c), .lit (.bool d)], p)) : cs = [.bool a, .bool b, .bool c, .bool d] := by
  obtain ⟨xs, n, _, hx, hl, hsz, hf⟩ := DataW.trod_struct Tryz.underlying149 h
  rw [cells159] at hl
  obtain ⟨v0, v1, v2, v3, rfl⟩ := listOf4 hl
  obtain ⟨y0, y1, y2, y3, rfl⟩ := listOf4 (show xs.length = 4 from hsz)
  have f0 : DataW.trod enc Tryz.prog w base sp held n 4 [v0] = some y0 := by simpa [cells4] using hf 0 _ rfl
  have f1 : DataW.trod enc Tryz.prog w base sp held n 4 [v1] = some y1 := by simpa [cells4] using hf 1 _ rfl
  have f2 : DataW.trod enc Tryz.prog w base sp held n 4 [v2] = some y2 := by simpa [cells4] using hf 2 _ rfl
  have f3 : DataW.trod enc Tryz.prog w base sp held n 4 [v3] = some y3 := by simpa [cells4] using hf 3 _ rfl
  obtain ⟨b0, e0, rfl⟩ := DataW.trod_bool Tryz.underlying4 f0
  obtain ⟨b1, e1, rfl⟩ := DataW.trod_bool Tryz.underlying4 f1
  obtain ⟨b2, e2, rfl⟩ := DataW.trod_bool Tryz.underlying4 f2
  obtain ⟨b3, e3, rfl⟩ := DataW.trod_bool Tryz.underlying4 f3
  have hd := congrArg Prod.fst hx
  simp at hd e0 e1 e2 e3
  obtain ⟨rfl, rfl, rfl, rfl⟩ := hd
  rw [e0, e1, e2, e3]
theorem table {W : World} (h : laidMetH Tryz.prog [("gangway/records.fieldsOf", Rows.laid_gangway_records_fieldsOf)] W) : Rk.Tab W := by
  have h' : laidMet Tryz.prog [("gangway/records.fieldsOf", Rows.laid_gangway_records_fieldsOf)] W := h
  obtain ⟨ps, ⟨g', t', cs, fuel, p, q, hg', ht', hvar, hd, _, _⟩, _⟩ := h'
  obtain rfl := Option.some.inj (gTab.symm.trans hg')
  obtain rfl := Option.some.inj (gTabType.symm.trans ht')
  cases fuel with
  | zero => simp [DataW.trod] at hd
  | succ fuel =>
    simp only [DataW.trod, Tryz.underlying150, cells160, cells159] at hd
    split at hd
    · rename_i hl
      obtain ⟨xs, hm, hx⟩ := Option.map_eq_some_iff.1 hd
      have hxs := congrArg Prod.fst hx
      simp only [Rows.laid_gangway_records_fieldsOf, DataW.agg.injEq] at hxs
      have key : ∀ i (a b c d : Bool), i < 6 → (xs.map (·.1))[i]? = some (.agg [.lit (.bool a), .lit (.bool b), .lit (.bool c), .lit (.bool d)]) → (cs.toList.drop (i * 4)).take 4 = [.bool a, .bool b, .bool c, .bool d] := by
        intro i a b c d hi he
        obtain ⟨y, hy, hf⟩ := Lib.mapM_at hm i i (by simp [hi])
        rw [List.getElem?_map, hy] at he
        obtain ⟨y1, y2⟩ := y
        simp at he
        subst he
        exact cells_fields hf
      rw [hxs] at key
      have k0 := key 0 _ _ _ _ (by decide) rfl
      have k1 := key 1 _ _ _ _ (by decide) rfl
      have k2 := key 2 _ _ _ _ (by decide) rfl
      have k3 := key 3 _ _ _ _ (by decide) rfl
      have k4 := key 4 _ _ _ _ (by decide) rfl
      have k5 := key 5 _ _ _ _ (by decide) rfl
      have hall : cs.toList = Rk.tabB.map Value.bool := by
        have e : cs.toList = (cs.toList.drop (0 * 4)).take 4 ++ ((cs.toList.drop (1 * 4)).take 4 ++ ((cs.toList.drop (2 * 4)).take 4 ++ ((cs.toList.drop (3 * 4)).take 4 ++ ((cs.toList.drop (4 * 4)).take 4 ++ (cs.toList.drop (5 * 4)).take 4)))) := by
          have s : ∀ n, cs.toList.drop n = (cs.toList.drop n).take 4 ++ cs.toList.drop (n + 4) := by
            intro n
            conv => lhs; rw [← List.take_append_drop 4 (cs.toList.drop n), List.drop_drop]
          have z : (cs.toList.drop (5 * 4)).take 4 = cs.toList.drop (5 * 4) := List.take_of_length_le (by rw [List.length_drop, hl]; decide)
          rw [z, ← s (4 * 4), ← s (3 * 4), ← s (2 * 4), ← s (1 * 4), ← s (0 * 4)]
          simp
        rw [e, k0, k1, k2, k3, k4, k5]
        rfl
      intro j hj
      have := World.var?_cell gTab hvar j
      rw [this, show cs[j]? = cs.toList[j]? by simp, hall, List.getElem?_map, List.getD_eq_getElem?_getD]
      have hjl : j < Rk.tabB.length := hj
      rw [List.getElem?_eq_getElem hjl]
      rfl
    · cases hd
/-- A world for the witness: the table (block 0) holding what its initialiser lays. -/
noncomputable def laidWorld (os : Os) : World :=
  { World.holding Tryz.prog os ⟨#[], #[], []⟩ with heap := (World.holding Tryz.prog os ⟨#[], #[], []⟩).heap.modify 0 fun
      | .cells _ t frozen => .cells (Rk.tabB.map Value.bool).toArray t frozen
      | o => o }
set_option maxRecDepth 20000 in
/-- An argument that is a record. -/
theorem open_recordArg {w : World} {base : Nat} {spare : Nat → Bool} {held : Bool} {r : Reach} {b0 : Nat} {v : Value} {d : DataW H} {ps : List MemPlace} (hval : Value.okWide Tryz.prog w r b0 43 v) (hd : DataW.Trod enc Tryz.prog w base spare held 43 v d ps) :
    ∃ r : Rc, v = Rk.rcV r ∧ r.Ok := by
  obtain ⟨cs, rfl, _⟩ := okWide_struct Tryz.underlying43 hval
  obtain ⟨fuel, h⟩ := hd
  have h : DataW.trod enc Tryz.prog w base spare held fuel 43 cs.toList = some (d, ps) := h
  obtain ⟨xs, n, _, hx, hl, hsz, hf⟩ := DataW.trod_struct Tryz.underlying43 h
  rw [cellsOf46] at hl
  obtain ⟨v0, v1, v2, v3, v4, hc⟩ := listOf5 hl
  obtain ⟨y0, y1, y2, y3, y4, rfl⟩ := listOf5 (show xs.length = 5 from hsz)
  rw [hc] at hf
  have f0 : DataW.trod enc Tryz.prog w base spare held n 41 [v0] = some y0 := by simpa [cellsOf44] using hf 0 _ rfl
  have f1 : DataW.trod enc Tryz.prog w base spare held n 30 [v1] = some y1 := by simpa [cellsOf24] using hf 1 _ rfl
  have f2 : DataW.trod enc Tryz.prog w base spare held n 3 [v2] = some y2 := by simpa [cellsOf3] using hf 2 _ rfl
  have f3 : DataW.trod enc Tryz.prog w base spare held n 2 [v3] = some y3 := by simpa [cellsOf2] using hf 3 _ rfl
  have f4 : DataW.trod enc Tryz.prog w base spare held n 2 [v4] = some y4 := by simpa [cellsOf2] using hf 4 _ rfl
  obtain ⟨a, e0, rfl, wa⟩ := DataW.trod_int Tryz.underlying41 f0
  obtain ⟨b, e1, rfl, wb⟩ := DataW.trod_int Tryz.underlying30 f1
  obtain ⟨c, e2, rfl, wc⟩ := DataW.trod_int Tryz.underlying3 f2
  obtain ⟨e, e3, rfl, we⟩ := DataW.trod_int Tryz.underlying2 f3
  obtain ⟨f, e4, rfl, wf⟩ := DataW.trod_int Tryz.underlying2 f4
  simp only [List.cons.injEq, and_true] at e0 e1 e2 e3 e4
  have ba := bounds_i64 wa
  have bb := bounds_u32 wb
  have bc := bounds_i64 wc
  have be := bounds_i64 we
  have bf := bounds_i64 wf
  refine ⟨⟨a, b, c, e, f⟩, ?_, ⟨by simp only; omega, by simp only; omega, by simp only; omega, by simp only; omega, by simp only; omega, by simp only; omega, by simp only; omega, by simp only; omega, by simp only; omega, by simp only; omega⟩⟩
  rw [e0, e1, e2, e3, e4] at hc
  unfold Rk.rcV
  congr 1
  cases cs
  simpa using hc
theorem cellsOf46' : Tryz.prog.cellsOf 43 = 5 := by kernel_rfl
theorem open_rec {w : World} {base n : Nat} {spare : Nat → Bool} {held : Bool} {a : Addr} {cs : List Value} {x : DataW H × List MemPlace} (hc : w.cells? base a 5 = some cs) (h : DataW.trod enc Tryz.prog w base spare held n 43 cs = some x) :
    ∃ r : Rc, r.Ok ∧ a = ⟨a.block, a.off, none⟩ ∧ w.cell? ⟨a.block, a.off, none⟩ = some (.int .i64 r.k) ∧ w.cell? ⟨a.block, a.off + 1, none⟩ = some (.int .u32 r.i) ∧ w.cell? ⟨a.block, a.off + 2, none⟩ = some (.int .i64 r.s) ∧ w.cell? ⟨a.block, a.off + 3, none⟩ = some (.int .i64 r.u) ∧ w.cell? ⟨a.block, a.off + 4, none⟩ = some (.int .i64 r.c) := by
  obtain ⟨_, hlen, hcell⟩ := World.cells?_some hc
  obtain ⟨xs, n, _, rfl, hl, hsz, hf⟩ := DataW.trod_struct Tryz.underlying43 h
  obtain ⟨v0, v1, v2, v3, v4, rfl⟩ := listOf5 hlen
  obtain ⟨y0, y1, y2, y3, y4, rfl⟩ := listOf5 (show xs.length = 5 from hsz)
  clear hl hsz
  have f0 : DataW.trod enc Tryz.prog w base spare held n 41 [v0] = some y0 := by simpa [cellsOf44] using hf 0 _ rfl
  have f1 : DataW.trod enc Tryz.prog w base spare held n 30 [v1] = some y1 := by simpa [cellsOf24] using hf 1 _ rfl
  have f2 : DataW.trod enc Tryz.prog w base spare held n 3 [v2] = some y2 := by simpa [cellsOf3] using hf 2 _ rfl
  have f3 : DataW.trod enc Tryz.prog w base spare held n 2 [v3] = some y3 := by simpa [cellsOf2] using hf 3 _ rfl
  have f4 : DataW.trod enc Tryz.prog w base spare held n 2 [v4] = some y4 := by simpa [cellsOf2] using hf 4 _ rfl
  obtain ⟨b0, e0, rfl, wa⟩ := DataW.trod_int Tryz.underlying41 f0
  obtain ⟨b1, e1, rfl, wb⟩ := DataW.trod_int Tryz.underlying30 f1
  obtain ⟨b2, e2, rfl, wc⟩ := DataW.trod_int Tryz.underlying3 f2
  obtain ⟨b3, e3, rfl, wd⟩ := DataW.trod_int Tryz.underlying2 f3
  obtain ⟨b4, e4, rfl, we⟩ := DataW.trod_int Tryz.underlying2 f4
  simp only [List.cons.injEq, and_true] at e0 e1 e2 e3 e4
  subst e0 e1 e2 e3 e4
  have ba := bounds_i64 wa
  have bb := bounds_u32 wb
  have bc := bounds_i64 wc
  have bd := bounds_i64 wd
  have be := bounds_i64 we
  have g0 := hcell 0 (by omega)
  have ha : a = ⟨a.block, a.off, none⟩ := by
    have h1 : w.cell? a = some (.int .i64 b0) := by simpa [Addr.add] using g0
    have h2 : a.spot = none := by
      unfold World.cell? at h1
      split at h1
      · split at h1
        · cases h1
        · rename_i hs; simpa using hs
      · cases h1
    cases a; simp_all
  rw [ha] at hcell
  refine ⟨⟨b0, b1, b2, b3, b4⟩, ⟨by simp only; omega, by simp only; omega, by simp only; omega, by simp only; omega, by simp only; omega, by simp only; omega, by simp only; omega, by simp only; omega, by simp only; omega, by simp only; omega⟩, ha, ?_, ?_, ?_, ?_, ?_⟩
  · simpa [Addr.add_lit] using hcell 0 (by omega)
  · simpa [Addr.add_lit] using hcell 1 (by omega)
  · simpa [Addr.add_lit] using hcell 2 (by omega)
  · simpa [Addr.add_lit] using hcell 3 (by omega)
  · simpa [Addr.add_lit] using hcell 4 (by omega)
theorem open_recsB {w : World} {base len n : Nat} {spare : Nat → Bool} {held : Bool} {a : Addr} {D : Nat → DataW H} {Pl : Nat → List MemPlace}
    (h : ∀ i, i < len → ∃ cs', w.cells? base (a.add (i * 5)) 5 = some cs' ∧ DataW.trod enc Tryz.prog w base spare held n 43 cs' = some (D i, Pl i)) :
    ∃ os : List Rc, os.length = len ∧ RecsAt w (some a) os ∧ (∀ o ∈ os, o.Ok) := by
  have hex : ∀ i, i < len → ∃ r : Rc, r.Ok ∧ ∃ blk off, some a = some (⟨blk, off, none⟩ : Addr) ∧ w.cell? ⟨blk, off + i * 5, none⟩ = some (.int .i64 r.k) ∧ w.cell? ⟨blk, off + i * 5 + 1, none⟩ = some (.int .u32 r.i) ∧ w.cell? ⟨blk, off + i * 5 + 2, none⟩ = some (.int .i64 r.s) ∧ w.cell? ⟨blk, off + i * 5 + 3, none⟩ = some (.int .i64 r.u) ∧ w.cell? ⟨blk, off + i * 5 + 4, none⟩ = some (.int .i64 r.c) := by
    intro i hi
    obtain ⟨cs', hc, ht⟩ := h i hi
    obtain ⟨o, hok, _, h1, h2, h3, h4, h5⟩ := open_rec hc ht
    have ha : a = ⟨a.block, a.off, none⟩ := by
      obtain ⟨cs0, hc0, ht0⟩ := h 0 (by omega)
      obtain ⟨_, _, he, _⟩ := open_rec hc0 ht0
      simpa [Addr.add] using he
    have e1 : (a.add (i * 5)).block = a.block := by unfold Addr.add; split <;> rfl
    have e2 : (a.add (i * 5)).off = a.off + i * 5 := by rw [ha, Addr.add_lit]
    rw [e1, e2] at h1 h2 h3 h4 h5
    exact ⟨o, hok, a.block, a.off, by rw [← ha], h1, h2, h3, h4, h5⟩
  clear h
  induction len with
  | zero => exact ⟨[], rfl, (fun j o h => by simp at h), fun o ho => by simp at ho⟩
  | succ k ih =>
    obtain ⟨os, h1, h2, h3⟩ := ih (fun i hi => hex i (by omega))
    obtain ⟨o, hok, g1⟩ := hex k (by omega)
    refine ⟨os ++ [o], by simp [h1], ?_, ?_⟩
    · intro j o' hj
      by_cases hjk : j < os.length
      · rw [List.getElem?_append_left hjk] at hj; exact h2 j o' hj
      · have hlt := (List.getElem?_eq_some_iff.1 hj).1
        have hjk2 : j = k := by simp at hlt; omega
        subst hjk2
        rw [List.getElem?_append_right (by omega), h1, Nat.sub_self] at hj
        simp at hj
        subst hj
        exact g1
    · intro o' ho'
      rcases List.mem_append.1 ho' with h | h
      · exact h3 o' h
      · simp at h; rw [h]; exact hok
set_option maxRecDepth 20000 in
/-- An argument that is a slice of records. -/
theorem open_recsArg {w : World} {r : Reach} {b0 : Nat} {v : Value} {d : DataW H} {p0 : List MemPlace} (hval : Value.okWide Tryz.prog w r b0 49 v) (h0 : DataW.Trod enc Tryz.prog w 0 (fun _ => true) true 49 v d p0) :
    ∃ (ao : Option Addr) (len cap : Nat) (os : List Rc), v = .slice ao len cap ∧ os.length = len ∧ RecsAt w ao os ∧ (∀ o ∈ os, o.Ok) ∧ len ≤ 9223372036854775807 := by
  obtain ⟨ao, len0, cap0, rfl⟩ := okWide_slice Tryz.underlying49 hval
  obtain ⟨fuel, hf⟩ := h0
  rcases open_slice Tryz.underlying49 hf with ⟨hcs, _⟩ | ⟨a, len, cap, m, n, D, Pl, hcs, _, hl, hm, hmm, hx, hel⟩
  · simp [Value.cells] at hcs
    obtain ⟨rfl, rfl, rfl⟩ := hcs
    exact ⟨none, 0, 0, [], rfl, rfl, (fun j o h => by simp at h), (fun o ho => by simp at ho), by omega⟩
  · simp [Value.cells] at hcs
    obtain ⟨rfl, rfl, rfl⟩ := hcs
    have hlm : len0 ≤ m := by rw [hmm]; split <;> omega
    rw [cellsOf46] at hel
    obtain ⟨os, h1, h2, h3⟩ := open_recsB (len := len0) (fun i hi => hel i (by omega))
    exact ⟨_, len0, cap0, os, rfl, h1, h2, h3, by unfold maxLen at hm; omega⟩
end Go.Proofs.YtahjckcfcdnlmaaGreatDoor
/- Two books side by side; ticks, numbers alone. -/
namespace Go.Proofs.YtahjckcfcdnlmaaGreatDoor
open Go.RowKit
section
variable {w W W' : World} {b c : Nat} {S S' : Sb} {K K' : Nat} {p q q' : Bp} {Bs : List (Nat × List Value × TypeId)}
/-- What another book's call leaves. -/
theorem Lk.beside (h : Lk w W b S K p Bs) (hq : Lk w W c S' K' q Bs) (hd : ∀ i, p.own i → ¬ q.own i) (k : Bst W W' q q') : Lk w W' b S K p Bs ∧ (∀ i, p.own i → ¬ q'.own i) := by
  refine ⟨⟨h.eb, h.bk.far k.kept hd, hq.kept k.kept, h.own, fun x hx => ?_⟩, fun i hi e => ?_⟩
  · obtain ⟨h1, h2, h3⟩ := h.bx x hx
    exact ⟨k.kept.at h1 (hq.bx x hx).2.1, h2, h3⟩
  · rcases k.own i e with e | e
    · exact hd i hi e
    · have := h.bk.lt i hi; omega
theorem Lk.same (h : Lk w W b S K p Bs) (hq : Lk w W c S K' q Bs) (hw : S.Wk) : Calls Tryz.prog 19 #[.pointer (some ⟨b, 0, none⟩), .pointer (some ⟨c, 0, none⟩)] W fun e w' => e = .returned (.bool true) ∧ W.grownBy w' none := by
  have := same_eq h.bk hq.bk hw
  rw [h.eb, hq.eb] at this
  exact this
end
/-- A tick. -/
def tkR (c : Int) : Rc := ⟨5, 0, 0, 0, c⟩
theorem tkR_ok {c : Int} (h0 : -9223372036854775808 ≤ c) (h1 : c ≤ 9223372036854775807) : (tkR c).Ok := ⟨by simp only [tkR]; omega, by simp only [tkR]; omega, by simp only [tkR]; omega, by simp only [tkR]; omega, by simp only [tkR]; omega, by simp only [tkR]; omega, by simp only [tkR]; omega, by simp only [tkR]; omega, h0, h1⟩
theorem tk_may (c : Int) : (tkR c).May ↔ 1 ≤ c ∧ c ≤ mxC := by
  unfold Rc.May tkR
  simp
theorem tk_bad {S : Sb} {c : Int} (h : ¬ (1 ≤ c ∧ c ≤ mxC)) : appE S (tkR c) = 160 := by
  unfold appE; rw [if_pos (fun e => h ((tk_may c).1 e))]
theorem tk_e {S : Sb} {c : Int} (h : 1 ≤ c ∧ c ≤ mxC) : appE S (tkR c) = if c ≤ S.t then 173 else 0 := by
  unfold appE; rw [if_neg (fun e => e ((tk_may c).2 h)), ]; simp [tkR]; rfl
theorem tk_past {S : Sb} {c : Int} (h : 1 ≤ c ∧ c ≤ mxC) (h2 : c ≤ S.t) : appE S (tkR c) = 173 := by rw [tk_e h, if_pos h2]
theorem tk_ok {S : Sb} {c : Int} (h : 1 ≤ c ∧ c ≤ mxC) (h2 : ¬ c ≤ S.t) : appE S (tkR c) = 0 ∧ app S (tkR c) = { S with L := tik S.L c, t := c } := by
  have h0 : appE S (tkR c) = 0 := by rw [tk_e h, if_neg h2]
  refine ⟨h0, ?_⟩
  rw [app_yes h0]
  rfl
theorem tik_tik (L : List Bg) {f l : Int} (h : f < l) : tik (tik L f) l = tik L l := by
  unfold tik
  rw [List.filter_filter]
  apply List.filter_congr
  intro x _
  by_cases h0 : x.u = 0
  · simp [h0]
  · by_cases h1 : l < x.u
    · simp [h1, show f < x.u by omega]
    · simp [h0, h1]
theorem tk_two {S : Sb} {f l : Int} (h : f < l) (hl : 1 ≤ l ∧ l ≤ mxC) (h2 : ¬ l ≤ S.t) : appE (app S (tkR f)) (tkR l) = 0 ∧ app (app S (tkR f)) (tkR l) = app S (tkR l) := by
  by_cases he : appE S (tkR f) = 0
  · have hf : 1 ≤ f ∧ f ≤ mxC := (tk_may f).1 (appE_may he)
    have hf2 : ¬ f ≤ S.t := fun e => by rw [tk_past hf e] at he; cases he
    obtain ⟨e1, e2⟩ := tk_ok hf hf2
    rw [e2]
    obtain ⟨e3, e4⟩ := tk_ok (S := { S with L := tik S.L f, t := f }) hl (by show ¬ l ≤ f; omega)
    refine ⟨e3, ?_⟩
    rw [e4, (tk_ok hl h2).2]
    show Sb.mk _ _ _ _ _ (tik (tik S.L f) l) = _
    rw [tik_tik _ h]
  · rw [app_no he]
    exact ⟨(tk_ok hl h2).1, rfl⟩
theorem fnd_tik {L : List Bg} (hA : AscB L) {x : Bg} (hx : x ∈ L) {c : Int} : fnd (tik L c) x.i = if x.u = 0 ∨ c < x.u then some x else none := by
  have hA' : AscB (tik L c) := hA.filter _
  by_cases h : x.u = 0 ∨ c < x.u
  · rw [if_pos h]
    exact (fnd_some hA').2 ⟨tik_mem.2 ⟨hx, h⟩, rfl⟩
  · rw [if_neg h]
    refine fnd_none.2 (fun y hy e => h ?_)
    obtain ⟨h1, h2⟩ := tik_mem.1 hy
    rw [← hA.same h1 hx e]
    exact h2
theorem tik_snoc (L : List Bg) (x : Bg) (c : Int) : (tik (L ++ [x]) c).length = (tik L c).length + (if x.u = 0 ∨ c < x.u then 1 else 0) := by
  unfold tik
  rw [List.filter_append, List.length_append]
  by_cases h : x.u = 0 ∨ c < x.u
  · rw [if_pos h, List.filter_cons_of_pos (by simpa using h)]; rfl
  · rw [if_neg h, List.filter_cons_of_neg (by simpa using h)]; rfl
end Go.Proofs.YtahjckcfcdnlmaaGreatDoor
/- A book of bookings that may be: Of. -/
namespace Go.Proofs.YtahjckcfcdnlmaaGreatDoor
open Go.RowKit
attribute [local go_sem ↓] Go.wp_at_zero Go.wp_at_succ
attribute [local go_sem] Oper.semAt_some
theorem rd_mem {L : List Bg} {j : Nat} (hj : j < L.length) : rd L j ∈ L := by
  unfold rd; rw [List.getElem?_eq_getElem hj]; exact List.getElem_mem hj
theorem rd_asc {L : List Bg} (h : AscB L) {j k : Nat} (hjk : j < k) (hk : k < L.length) : (rd L j).i < (rd L k).i := by
  unfold rd
  rw [List.getElem?_eq_getElem hk, List.getElem?_eq_getElem (by omega)]
  exact List.pairwise_iff_getElem.1 h j k (by omega) hk hjk
set_option maxHeartbeats 4000000 in
theorem mayLast_ok {w : World} {p : Bp} {S : Sb} {K : Nat} (h : BkAt w p S K) {u : Int} (hu : u = 0 ∨ (S.t < u ∧ u ≤ mxC)) : Calls Tryz.prog 86 #[.pointer (some ⟨p.b, 0, none⟩), .int .i64 u] w fun e w' => e = .returned (.bool true) ∧ w' = w := by
  have c5 := h.cells 5 _ rfl
  clear h
  by_cases hz : u = 0
  · subst hz
    go_enter Tryz.func86, Tryz.ntmps86
    go_wp2
    go_ret
    exact ⟨rfl, rfl⟩
  · have h1 : S.t < u := by omega
    have h2 : u ≤ 1099511627776 := by rcases hu with e | e; exact absurd e hz; exact e.2
    have hz1 : (u == 0) = false := by simpa using hz
    have hz2 : decide (u = 0) = false := by simpa using hz
    clear hu
    go_enter Tryz.func86, Tryz.ntmps86
    go_wp2
    go_ret
    exact ⟨rfl, rfl⟩
set_option maxRecDepth 20000 in
set_option maxHeartbeats 8000000 in
theorem mayHave_ok {w : World} {p : Bp} {S : Sb} {K : Nat} (h : BkAt w p S K) (x : Bg) (hi : x.i < S.n) (hs : x.s < S.a) (hn : sat S.L x.s = none) (hf : S.L.length < S.b) (hu : x.u = 0 ∨ (S.t < x.u ∧ x.u ≤ mxC)) : Calls Tryz.prog 59 #[.pointer (some ⟨p.b, 0, none⟩), bgV x] w fun e w' => e = .returned (.bool true) ∧ w.grownBy w' none := by
  obtain ⟨xi, xs, xu⟩ := x
  simp only at hi hs hn hu
  have m0 := Bm.start h (bgc ⟨xi, xs, xu⟩) 45
  have HS : Hid (∀ W, Calls Tryz.prog 68 #[limV S.a S.b S.c, .int .i64 (xs : Int)] W fun e w' => e = .returned (.bool true) ∧ W.grownBy w' none) := by
    intro W
    have := hasSeat_any S.a S.b S.c (xs : Int) W
    rw [decide_eq_true (show (0 : Int) ≤ (xs : Int) ∧ (xs : Int) < (S.a : Int) by omega)] at this
    exact this
  have HR : Hid (∀ W, Calls Tryz.prog 85 #[limV S.a S.b S.c, .int .i64 (S.L.length : Int)] W fun e w' => e = .returned (.bool true) ∧ W.grownBy w' none) := by
    intro W
    have := hasRoom_any S.a S.b S.c (S.L.length : Int) W
    rw [decide_eq_true (show (S.L.length : Int) < (S.b : Int) by omega)] at this
    exact this
  have HH : Hid (∀ W, Bm w W w.heap.size (bgc ⟨xi, xs, xu⟩) 45 p S K → Calls Tryz.prog 69 #[.pointer (some ⟨p.tb, 0, none⟩), .int .i64 (xs : Int)] W fun e w' => e = .returned (.bool false) ∧ W.grownBy w' none) := by
    intro W hW
    have := hW.bk.has xs hs
    rw [hn] at this
    exact this
  have HL : Hid (∀ W, Bm w W w.heap.size (bgc ⟨xi, xs, xu⟩) 45 p S K → Calls Tryz.prog 41 #[.pointer (some ⟨p.ip.x, 0, none⟩)] W fun e w' => e = .returned (.int .i64 (S.L.length : Int)) ∧ w' = W) := fun W hW => hW.bk.len
  have HM : Hid (∀ W, Bm w W w.heap.size (bgc ⟨xi, xs, xu⟩) 45 p S K → Calls Tryz.prog 86 #[.pointer (some ⟨p.b, 0, none⟩), .int .i64 xu] W fun e w' => e = .returned (.bool true) ∧ w' = W) := fun W hW => mayLast_ok hW.bk hu
  have HK : Hid (∀ W, Bm w W w.heap.size (bgc ⟨xi, xs, xu⟩) 45 p S K → W.cell? ⟨p.b, 0, none⟩ = some (.int .i64 (S.a : Int)) ∧ W.cell? ⟨p.b, 1, none⟩ = some (.int .i64 (S.b : Int)) ∧ W.cell? ⟨p.b, 2, none⟩ = some (.int .i64 (S.c : Int)) ∧ W.cell? ⟨p.b, 4, none⟩ = some (.int .u32 (S.n : Int)) ∧ W.cell? ⟨p.b, 6, none⟩ = some (.pointer (some ⟨p.tb, 0, none⟩)) ∧ W.cell? ⟨p.b, 8, none⟩ = some (.pointer (some ⟨p.ip.x, 0, none⟩)) ∧ W.cell? ⟨w.heap.size, 0, none⟩ = some (.int .u32 (xi : Int)) ∧ W.cell? ⟨w.heap.size, 1, none⟩ = some (.int .i64 (xs : Int)) ∧ W.cell? ⟨w.heap.size, 2, none⟩ = some (.int .i64 xu)) := fun W m => ⟨m.ff.a0, m.ff.a1, m.ff.a2, m.ff.a4, m.ff.a6, m.ff.a8, m.ff.bx 0 _ rfl, m.ff.bx 1 _ rfl, m.ff.bx 2 _ rfl⟩
  unfold limV at HS HR
  unfold bgc at m0 HH HL HM HK
  have hK0 := HK.out _ m0
  have h1 : (xi : Int) < (S.n : Int) := by omega
  clear h hs hn hf hu hi
  unfold bgV
  go_enter Tryz.func59, Tryz.ntmps59
  go_wp2
  generalize World.alloc w _ = w0 at *
  go_region_held3 (fun W => W.cell? ⟨p.b, 0, none⟩ = some (.int .i64 (S.a : Int)) ∧ W.cell? ⟨p.b, 1, none⟩ = some (.int .i64 (S.b : Int)) ∧ W.cell? ⟨p.b, 2, none⟩ = some (.int .i64 (S.c : Int)) ∧ W.cell? ⟨p.b, 4, none⟩ = some (.int .u32 (S.n : Int)) ∧ W.cell? ⟨p.b, 6, none⟩ = some (.pointer (some ⟨p.tb, 0, none⟩)) ∧ W.cell? ⟨p.b, 8, none⟩ = some (.pointer (some ⟨p.ip.x, 0, none⟩)) ∧ W.cell? ⟨w.heap.size, 0, none⟩ = some (.int .u32 (xi : Int)) ∧ W.cell? ⟨w.heap.size, 1, none⟩ = some (.int .i64 (xs : Int)) ∧ W.cell? ⟨w.heap.size, 2, none⟩ = some (.int .i64 xu)) (first | assumption | exact hK0)
    ((first
      | (go_at_call 68; refine (HS.out _).mono ?_; rintro e w2 ⟨rfl, hg2⟩; have m2 := (Bm.then m0 (grown_drew _ none)).then hg2; have hK2 := HK.out _ m2)
      | (go_at_call 69; refine (HH.out _ m2).mono ?_; rintro e w3 ⟨rfl, hg3⟩; have m3 := Bm.then m2 hg3; have hK3 := HK.out _ m3)
      | (go_at_call 41; refine (HL.out _ m3).mono ?_; rintro e w4 ⟨rfl, rfl⟩)
      | (go_at_call 85; refine (HR.out _).mono ?_; rintro e w5 ⟨rfl, hg5⟩; have m5 := Bm.then m3 hg5; have hK5 := HK.out _ m5)
      | (go_at_call 86; refine (HM.out _ m5).mono ?_; rintro e w6 ⟨rfl, rfl⟩)))
  go_wp2
  go_ret
  exact ⟨rfl, m5.gr⟩
/-- Bookings ahead of one. -/
theorem take_ok {L : List Bg} (hA : AscB L) (hO : OneS L) {j : Nat} (hj : j < L.length) : (∀ y ∈ L.take j, y.i < (rd L j).i) ∧ sat (L.take j) (rd L j).s = none := by
  have h1 := pre_facts (L := L) (pre := L.take j) (x := rd L j) (by rw [take_rd hj]; exact List.take_prefix _ _) hA hO
  exact ⟨h1.2.1, h1.2.2.1⟩
theorem last_le {L : List Bg} (hA : AscB L) {j l : Nat} (hl : ∀ k, j ≤ k → k < L.length → l ≤ (rd L k).i) (hj : j < L.length) : l ≤ (rd L j).i ∧ ∀ k, j + 1 ≤ k → k < L.length → (rd L j).i + 1 ≤ (rd L k).i :=
  ⟨hl j (Nat.le_refl _) hj, fun k h1 h2 => rd_asc hA (by omega) h2⟩
set_option maxRecDepth 20000 in
set_option maxHeartbeats 8000000 in
theorem of_ok {w : World} {v : Value} {a b c n : Nat} {t : Int} {L : List Bg} (hS : Sb.Ok ⟨a, b, c, n, t, L⟩) (hv : BgA w v L) (hz : 0 < w.heap.size) : Calls Tryz.prog 23 #[limV a b c, .int .u32 (n : Int), .int .i64 t, v] w fun e w' => ∃ x p, e = .returned (.tuple #[.pointer (some ⟨x, 0, none⟩), .int .i64 0]) ∧ Lk w w' x ⟨a, b, c, n, t, L⟩ 4096 p [] := by
  have hok : Gx.OkS a b c := by have h1 := hS.a0; have h2 := hS.a1; have h3 := hS.b0; have h4 := hS.b1; have h5 := hS.c0; have h6 := hS.c1; simp only at h1 h2 h3 h4 h5 h6; unfold Gx.OkS; omega
  obtain ⟨vo, cap, rfl, hx⟩ := hv.ex
  have HC1 : Hid (∀ W : World, Calls Tryz.prog 21 #[.agg #[.int .i64 (a : Int), .int .i64 (b : Int), .int .i64 (c : Int)]] W fun e w' => e = .returned (.int .i64 0) ∧ W.grownBy w' none) := fun W => Ge.check_ok _ _ _ hok W
  have HC2 : Hid (∀ W : World, w.grownBy W none → Calls Tryz.prog 58 #[.agg #[.int .i64 (a : Int), .int .i64 (b : Int), .int .i64 (c : Int)], .int .u32 (n : Int), .int .i64 t] W fun e w' => ∃ x p, e = .returned (.pointer (some ⟨x, 0, none⟩)) ∧ Lk w w' x ⟨a, b, c, n, t, []⟩ 0 p []) := by
    intro W hW
    refine (empty_any a b c n t hok W (by have := hW.size; omega)).mono ?_
    rintro e w' ⟨p, rfl, h1, h2, h3⟩
    exact ⟨p.b, p, rfl, rfl, h1, grown_trans hW h2, fun i hi => Nat.le_trans hW.size (h3 i hi), fun x hx => by cases hx⟩
  have HV := hide hv
  have HO := hide hS
  have hn1 : (1 : Int) ≤ (n : Int) := by have := hS.n0; simp only at this; omega
  have ht0 : ¬ t < 0 := by have := hS.t0; simp only at this; omega
  have ht1 : ¬ (1099511627776 : Int) < t := by have := hS.t1; simp only [mxC] at this; omega
  have HMay : Hid (∀ W x p j, j < L.length → Lk w W x ⟨a, b, c, n, t, L.take j⟩ j p [] → Calls Tryz.prog 59 #[.pointer (some ⟨x, 0, none⟩), bgV (rd L j)] W fun e w' => e = .returned (.bool true) ∧ W.grownBy w' none) := by
    intro W x p j hj h
    have hm := rd_mem hj
    have := mayHave_ok h.bk (rd L j) (HO.out.id _ hm).2 (HO.out.st _ hm) (take_ok HO.out.asc HO.out.one hj).2 (by have h1 := HO.out.few; simp only [List.length_take] at h1 ⊢; omega) (HO.out.til _ hm)
    rw [h.eb] at this
    exact this
  have HAdd : Hid (∀ W x p j Bs, j < L.length → Lk w W x ⟨a, b, c, n, t, L.take j⟩ j p Bs → Calls Tryz.prog 60 #[.pointer (some ⟨x, 0, none⟩), bgV (rd L j)] W fun e w' => e = .returned (.tuple #[]) ∧ ∃ q, Lk w w' x ⟨a, b, c, n, t, L.take (j + 1)⟩ (j + 1) q Bs) := by
    intro W x p j Bs hj h
    have hm := rd_mem hj
    have hwk : Sb.Wk ⟨a, b, c, n, t, L.take j⟩ := HO.out.wk.sub (List.take_sublist _ _) HO.out.t0 HO.out.t1
    have hi := (HO.out.id _ hm).2
    have hn := HO.out.n1
    have hfw := HO.out.few
    have hb1 := HO.out.b1
    simp only at hi hn hfw hb1
    have := add_any h.bk hwk (by omega) (rd L j) (by omega) (HO.out.st _ hm) (take_ok HO.out.asc HO.out.one hj).1 (take_ok HO.out.asc HO.out.one hj).2 (by simp only [List.length_take]; omega)
    rw [h.eb] at this
    refine this.mono ?_
    rintro e w' ⟨rfl, q, h1, h2⟩
    simp only [take_rd hj] at h1
    exact ⟨rfl, q, h.step h2 h1⟩
  have hb0 := heap_alloc_new w (.cells [.int .i64 (a : Int), .int .i64 (b : Int), .int .i64 (c : Int)].toArray 23)
  have HB0 := hide hb0
  clear hS hok hx hv hz hb0
  unfold limV
  generalize hnn : L.length = m at *
  have HN := hide hnn
  have hm8 : m ≤ 4096 := by have h1 := HO.out.few; have h2 := HO.out.b1; simp only at h1 h2; omega
  clear hnn
  go_enter Tryz.func23, Tryz.ntmps23
  go_wp2_with fail
  refine (HC1.out _).mono ?_
  rintro e w1 ⟨rfl, hg1⟩
  have hg0 := grown_trans (grown_alloc w _) hg1
  obtain ⟨d0, d1, d2, -⟩ := box3 ((hg1.block _ (row_lt HB0.out) (by simp)).trans HB0.out)
  go_wp2_with fail
  refine (HC2.out _ hg0).mono ?_
  rintro e w2 ⟨x, p, rfl, hh⟩
  have H2 := hide hh
  clear hh d0 d1 d2 hg0 hg1 HC1 HC2 HB0
  go_wp2
  go_loopg [12, 36] m (fun k la i wr => ∃ j l : Nat, k + j = m ∧ i = .int .i64 j ∧ la = .int .u32 (l : Int) ∧ Hid (∀ k, j ≤ k → k < L.length → l ≤ (rd L k).i) ∧ ∃ q, Hid (Lk w wr x ⟨a, b, c, n, t, L.take j⟩ j q []))
  case atStart => exact ⟨0, 1, by omega, rfl, rfl, (fun k _ hk => (HO.out.id _ (rd_mem hk)).1), _, H2.out⟩
  case round =>
    clear H2
    obtain ⟨j, l, hkj, rfl, rfl, HL, q, HQ⟩ := hrel
    by_cases hk : 0 < gk
    · have hj : j < L.length := by rw [HN.out]; omega
      have h1 : (0 : Int) ≤ (j : Int) := by omega
      have h2 : (j : Int) < (m : Int) := by omega
      obtain ⟨ao', cap', he, hx⟩ := (HV.out.then HQ.out.gr).ex
      cases he
      obtain ⟨g, rfl, x0, x1, x2⟩ := hx j hj
      obtain ⟨hl1, hl2⟩ := last_le (L := L) HO.out.asc HL.out hj
      have HNx := hide hl2
      have HM' := hide (fun W h => HMay.out W x q j hj h)
      have HA' := hide (fun W Bs h => HAdd.out W x q j Bs hj h)
      have hid := (HO.out.id _ (rd_mem hj)).2
      have hn1' := HO.out.n1
      simp only at hid hn1'
      have hid2 : ((rd L j).i : Int) + 1 < 4294967296 := by omega
      have hl1' : ¬ ((rd L j).i : Int) < (l : Int) := by omega
      obtain ⟨xx, hxx⟩ : ∃ xx, rd L j = xx := ⟨_, rfl⟩
      rw [hxx] at x0 x1 x2 HNx HM' HA' hid2 hl1'
      obtain ⟨xi, xs, xu⟩ := xx
      simp only [bgV] at x0 x1 x2 HNx HM' HA' hid2 hl1'
      clear hx hxx hl1 hl2 hid hn1' hj HMay HAdd
      go_wp2_with fail
      have HB := hide (HQ.out.box [.int .u32 (xi : Int), .int .i64 (xs : Int), .int .i64 xu] 45)
      refine (HM'.out _ HB.out.bare).mono ?_
      rintro e w3 ⟨rfl, hg3⟩
      have h3 := HB.out.then hg3
      have y0 := h3.cell List.mem_cons_self 0 _ rfl
      have y1 := h3.cell List.mem_cons_self 1 _ rfl
      have y2 := h3.cell List.mem_cons_self 2 _ rfl
      have H3 := hide h3
      clear h3 hg3 HB x0 x1 x2 HM' HQ
      go_wp2_with fail
      refine (HA'.out _ _ H3.out).mono ?_
      rintro e w4 ⟨rfl, q4, h4⟩
      have z0 := h4.cell List.mem_cons_self 0 _ rfl
      have H4 := hide h4.bare
      clear h4 H3 y0 y1 y2 HA'
      go_wp2
      go_roundg (gk - 1)
      case measure => omega
      case rel => exact ⟨j + 1, xi + 1, by omega, by go_num, by go_num, HNx.out, _, H4.out⟩
    · have hj : j = m := by omega
      subst hj
      have HF := hide (HQ.out.more hm8)
      have HT : Hid (L.take j = L) := by rw [← HN.out]; exact List.take_length
      go_wp2
      go_ret2
      rw [HT.out] at HF
      exact ⟨_, _, rfl, HF.out⟩
end Go.Proofs.YtahjckcfcdnlmaaGreatDoor
/- Books alike but for the group; their rows copied. -/
namespace Go.Proofs.YtahjckcfcdnlmaaGreatDoor
open Go.RowKit
attribute [local go_sem ↓] Go.wp_at_zero Go.wp_at_succ
attribute [local go_sem] Oper.semAt_some
theorem appE_c (S : Sb) (c1 : Nat) (r : Rc) : appE { S with c := c1 } r = appE S r := rfl
theorem app_c (S : Sb) (c1 : Nat) (r : Rc) : app { S with c := c1 } r = { app S r with c := c1 } := by
  unfold app
  rw [appE_c]
  split
  · unfold appS
    repeat' split
    all_goals rfl
  · rfl
set_option maxHeartbeats 4000000 in
theorem shape_any {w : World} {p : Bp} {S : Sb} {K : Nat} (h : BkAt w p S K) : Calls Tryz.prog 30 #[.pointer (some ⟨p.b, 0, none⟩)] w fun e w' => e = .returned (limV S.a S.b S.c) ∧ w.grownBy w' none := by
  have m0 := Bm.start h [.int .i64 0, .int .i64 0, .int .i64 0] 23
  have HC1 := hide m0.bk.isNone
  have a0 := m0.ff.a0
  have a1 := m0.ff.a1
  have a2 := m0.ff.a2
  obtain ⟨d0, d1, d2, d3⟩ := box3 m0.box
  have HM := hide m0
  clear h m0
  unfold limV
  go_enter Tryz.func30, Tryz.ntmps30
  go_wp2_with fail
  refine HC1.out.mono ?_
  rintro e w1 ⟨rfl, rfl⟩
  go_wp2
  obtain ⟨r1, r2⟩ := row3 _ HM.out.box (.int .i64 (S.a : Int)) (.int .i64 (S.b : Int)) (.int .i64 (S.c : Int))
  first
    | exact bodyPost_ret (results_cell_row rfl _ _ w.heap.size 23 #[.int .i64 (S.a : Int), .int .i64 (S.b : Int), .int .i64 (S.c : Int)] (0, 0) _ rfl r1 Tryz.underlying23 rfl (by kernel_rfl)) rfl ⟨rfl, gn_set (gn_set (gn_set HM.out.gr (Nat.le_refl _)) (Nat.le_refl _)) (Nat.le_refl _)⟩
    | exact bodyPost_ret (results_cell_row rfl _ _ w.heap.size 23 #[.int .i64 (S.a : Int), .int .i64 (S.b : Int), .int .i64 (S.c : Int)] (0, 0) _ rfl (heap_alloc_new w _) Tryz.underlying23 rfl (by kernel_rfl)) rfl ⟨rfl, grown_alloc _ _⟩
set_option maxHeartbeats 8000000 in
theorem same_c {w : World} {p q : Bp} {S : Sb} {K K' c1 : Nat} (hp : BkAt w p S K) (hq : BkAt w q { S with c := c1 } K') (hw : S.Wk) (hw2 : Sb.Wk { S with c := c1 }) : Calls Tryz.prog 19 #[.pointer (some ⟨p.b, 0, none⟩), .pointer (some ⟨q.b, 0, none⟩)] w fun e w' => e = .returned (.bool true) ∧ w.grownBy w' none := by
  have HN1 := hide hp.isNone
  have HN2 := hide hq.isNone
  have HL : Hid (∀ W, Calls Tryz.prog 49 #[limV S.a S.b S.c, limV S.a S.b c1] W fun e w' => e = .returned (.bool true) ∧ W.grownBy w' none) := fun W => isLike_eq _ _ _ _ W
  have HB1 : Hid (∀ W, w.grownBy W none → Calls Tryz.prog 51 #[.pointer (some ⟨p.b, 0, none⟩)] W fun e w' => ∃ v, e = .returned v ∧ BgA w' v S.L ∧ W.grownBy w' none) := by
    intro W hW
    refine (bookings_any (hp.then hW) hw).mono ?_
    rintro e w' ⟨v, rfl, h1, h2⟩
    exact ⟨v, rfl, BgA.own h1, h2⟩
  have HB2 : Hid (∀ W, w.grownBy W none → Calls Tryz.prog 51 #[.pointer (some ⟨q.b, 0, none⟩)] W fun e w' => ∃ v, e = .returned v ∧ BgA w' v S.L ∧ W.grownBy w' none) := by
    intro W hW
    refine (bookings_any (hq.then hW) hw2).mono ?_
    rintro e w' ⟨v, rfl, h1, h2⟩
    exact ⟨v, rfl, BgA.own h1, h2⟩
  have HE : Hid (∀ W v u, BgA W v S.L → BgA W u S.L → Calls Tryz.prog 50 #[v, u] W fun e w' => e = .returned (.bool true) ∧ W.grownBy w' none) := by
    intro W v u h1 h2
    have := equal_any h1 h2 (by have := hw.few; have := hw.b1; omega)
    rw [decide_eq_true rfl] at this
    exact this
  have HK : Hid (∀ W, w.grownBy W none → (W.cell? ⟨p.b, 0, none⟩ = some (.int .i64 (S.a : Int)) ∧ W.cell? ⟨p.b, 1, none⟩ = some (.int .i64 (S.b : Int)) ∧ W.cell? ⟨p.b, 2, none⟩ = some (.int .i64 (S.c : Int)) ∧ W.cell? ⟨p.b, 4, none⟩ = some (.int .u32 (S.n : Int)) ∧ W.cell? ⟨p.b, 5, none⟩ = some (.int .i64 S.t)) ∧ W.cell? ⟨q.b, 0, none⟩ = some (.int .i64 (S.a : Int)) ∧ W.cell? ⟨q.b, 1, none⟩ = some (.int .i64 (S.b : Int)) ∧ W.cell? ⟨q.b, 2, none⟩ = some (.int .i64 (c1 : Int)) ∧ W.cell? ⟨q.b, 4, none⟩ = some (.int .u32 (S.n : Int)) ∧ W.cell? ⟨q.b, 5, none⟩ = some (.int .i64 S.t)) := fun W hW =>
    ⟨⟨(hp.then hW).cells 0 _ rfl, (hp.then hW).cells 1 _ rfl, (hp.then hW).cells 2 _ rfl, (hp.then hW).cells 4 _ rfl, (hp.then hW).cells 5 _ rfl⟩, (hq.then hW).cells 0 _ rfl, (hq.then hW).cells 1 _ rfl, (hq.then hW).cells 2 _ rfl, (hq.then hW).cells 4 _ rfl, (hq.then hW).cells 5 _ rfl⟩
  have hK0 := HK.out w (grown_refl _ _)
  clear hp hq hw hw2
  unfold limV at HL
  generalize (S.a : Int) = a at *
  generalize (S.b : Int) = b at *
  generalize (S.c : Int) = c at *
  generalize (c1 : Int) = c2 at *
  generalize (S.n : Int) = n at *
  generalize S.t = t at *
  go_enter Tryz.func19, Tryz.ntmps19
  go_wp2_with fail
  refine HN1.out.mono ?_
  rintro e w1 ⟨rfl, rfl⟩
  go_wp2_with fail
  refine HN2.out.mono ?_
  rintro e w2 ⟨rfl, rfl⟩
  go_wp2
  go_region_held3 (fun W => (W.cell? ⟨p.b, 0, none⟩ = some (.int .i64 a) ∧ W.cell? ⟨p.b, 1, none⟩ = some (.int .i64 b) ∧ W.cell? ⟨p.b, 2, none⟩ = some (.int .i64 c) ∧ W.cell? ⟨p.b, 4, none⟩ = some (.int .u32 n) ∧ W.cell? ⟨p.b, 5, none⟩ = some (.int .i64 t)) ∧ W.cell? ⟨q.b, 0, none⟩ = some (.int .i64 a) ∧ W.cell? ⟨q.b, 1, none⟩ = some (.int .i64 b) ∧ W.cell? ⟨q.b, 2, none⟩ = some (.int .i64 c2) ∧ W.cell? ⟨q.b, 4, none⟩ = some (.int .u32 n) ∧ W.cell? ⟨q.b, 5, none⟩ = some (.int .i64 t)) (first | assumption | exact hK0)
    ((first
      | (go_at_call 49; refine (HL.out _).mono ?_; rintro e w3 ⟨rfl, hg3⟩; have g3 := grown_trans (grown_drew _ none) hg3; have hK3 := HK.out _ g3)
      | (go_at_call_of 51 (Value.pointer (some ⟨p.b, 0, none⟩)); refine (HB1.out _ g3).mono ?_; rintro e w4 ⟨v, rfl, hv4, hg4⟩; have g4 := grown_trans g3 hg4; have hK4 := HK.out _ g4)
      | (go_at_call_of 51 (Value.pointer (some ⟨q.b, 0, none⟩)); refine (HB2.out _ g4).mono ?_; rintro e w5 ⟨u, rfl, hu5, hg5⟩; have g5 := grown_trans g4 hg5; have hK5 := HK.out _ g5; have hv5 := hv4.then hg5)
      | (go_at_call 50; refine (HE.out _ _ _ hv5 hu5).mono ?_; rintro e w6 ⟨rfl, hg6⟩; have g6 := grown_trans g5 hg6; have hK6 := HK.out _ g6)))
  go_wp2
  go_ret
  exact ⟨rfl, g6⟩
set_option maxHeartbeats 8000000 in
theorem same_c' {w : World} {p q : Bp} {S : Sb} {K K' c1 : Nat} (hp : BkAt w p { S with c := c1 } K) (hq : BkAt w q S K') (hw2 : S.Wk) (hw : Sb.Wk { S with c := c1 }) : Calls Tryz.prog 19 #[.pointer (some ⟨p.b, 0, none⟩), .pointer (some ⟨q.b, 0, none⟩)] w fun e w' => e = .returned (.bool true) ∧ w.grownBy w' none := by
  have HN1 := hide hp.isNone
  have HN2 := hide hq.isNone
  have HL : Hid (∀ W, Calls Tryz.prog 49 #[limV S.a S.b c1, limV S.a S.b S.c] W fun e w' => e = .returned (.bool true) ∧ W.grownBy w' none) := fun W => isLike_eq _ _ _ _ W
  have HB1 : Hid (∀ W, w.grownBy W none → Calls Tryz.prog 51 #[.pointer (some ⟨p.b, 0, none⟩)] W fun e w' => ∃ v, e = .returned v ∧ BgA w' v S.L ∧ W.grownBy w' none) := by
    intro W hW
    refine (bookings_any (hp.then hW) hw).mono ?_
    rintro e w' ⟨v, rfl, h1, h2⟩
    exact ⟨v, rfl, BgA.own h1, h2⟩
  have HB2 : Hid (∀ W, w.grownBy W none → Calls Tryz.prog 51 #[.pointer (some ⟨q.b, 0, none⟩)] W fun e w' => ∃ v, e = .returned v ∧ BgA w' v S.L ∧ W.grownBy w' none) := by
    intro W hW
    refine (bookings_any (hq.then hW) hw2).mono ?_
    rintro e w' ⟨v, rfl, h1, h2⟩
    exact ⟨v, rfl, BgA.own h1, h2⟩
  have HE : Hid (∀ W v u, BgA W v S.L → BgA W u S.L → Calls Tryz.prog 50 #[v, u] W fun e w' => e = .returned (.bool true) ∧ W.grownBy w' none) := by
    intro W v u h1 h2
    have := equal_any h1 h2 (by have := hw2.few; have := hw2.b1; omega)
    rw [decide_eq_true rfl] at this
    exact this
  have HK : Hid (∀ W, w.grownBy W none → (W.cell? ⟨p.b, 0, none⟩ = some (.int .i64 (S.a : Int)) ∧ W.cell? ⟨p.b, 1, none⟩ = some (.int .i64 (S.b : Int)) ∧ W.cell? ⟨p.b, 2, none⟩ = some (.int .i64 (c1 : Int)) ∧ W.cell? ⟨p.b, 4, none⟩ = some (.int .u32 (S.n : Int)) ∧ W.cell? ⟨p.b, 5, none⟩ = some (.int .i64 S.t)) ∧ W.cell? ⟨q.b, 0, none⟩ = some (.int .i64 (S.a : Int)) ∧ W.cell? ⟨q.b, 1, none⟩ = some (.int .i64 (S.b : Int)) ∧ W.cell? ⟨q.b, 2, none⟩ = some (.int .i64 (S.c : Int)) ∧ W.cell? ⟨q.b, 4, none⟩ = some (.int .u32 (S.n : Int)) ∧ W.cell? ⟨q.b, 5, none⟩ = some (.int .i64 S.t)) := fun W hW =>
    ⟨⟨(hp.then hW).cells 0 _ rfl, (hp.then hW).cells 1 _ rfl, (hp.then hW).cells 2 _ rfl, (hp.then hW).cells 4 _ rfl, (hp.then hW).cells 5 _ rfl⟩, (hq.then hW).cells 0 _ rfl, (hq.then hW).cells 1 _ rfl, (hq.then hW).cells 2 _ rfl, (hq.then hW).cells 4 _ rfl, (hq.then hW).cells 5 _ rfl⟩
  have hK0 := HK.out w (grown_refl _ _)
  clear hp hq hw hw2
  unfold limV at HL
  generalize (S.a : Int) = a at *
  generalize (S.b : Int) = b at *
  generalize (S.c : Int) = c at *
  generalize (c1 : Int) = c2 at *
  generalize (S.n : Int) = n at *
  generalize S.t = t at *
  go_enter Tryz.func19, Tryz.ntmps19
  go_wp2_with fail
  refine HN1.out.mono ?_
  rintro e w1 ⟨rfl, rfl⟩
  go_wp2_with fail
  refine HN2.out.mono ?_
  rintro e w2 ⟨rfl, rfl⟩
  go_wp2
  go_region_held3 (fun W => (W.cell? ⟨p.b, 0, none⟩ = some (.int .i64 a) ∧ W.cell? ⟨p.b, 1, none⟩ = some (.int .i64 b) ∧ W.cell? ⟨p.b, 2, none⟩ = some (.int .i64 c2) ∧ W.cell? ⟨p.b, 4, none⟩ = some (.int .u32 n) ∧ W.cell? ⟨p.b, 5, none⟩ = some (.int .i64 t)) ∧ W.cell? ⟨q.b, 0, none⟩ = some (.int .i64 a) ∧ W.cell? ⟨q.b, 1, none⟩ = some (.int .i64 b) ∧ W.cell? ⟨q.b, 2, none⟩ = some (.int .i64 c) ∧ W.cell? ⟨q.b, 4, none⟩ = some (.int .u32 n) ∧ W.cell? ⟨q.b, 5, none⟩ = some (.int .i64 t)) (first | assumption | exact hK0)
    ((first
      | (go_at_call 49; refine (HL.out _).mono ?_; rintro e w3 ⟨rfl, hg3⟩; have g3 := grown_trans (grown_drew _ none) hg3; have hK3 := HK.out _ g3)
      | (go_at_call_of 51 (Value.pointer (some ⟨p.b, 0, none⟩)); refine (HB1.out _ g3).mono ?_; rintro e w4 ⟨v, rfl, hv4, hg4⟩; have g4 := grown_trans g3 hg4; have hK4 := HK.out _ g4)
      | (go_at_call_of 51 (Value.pointer (some ⟨q.b, 0, none⟩)); refine (HB2.out _ g4).mono ?_; rintro e w5 ⟨u, rfl, hu5, hg5⟩; have g5 := grown_trans g4 hg5; have hK5 := HK.out _ g5; have hv5 := hv4.then hg5)
      | (go_at_call 50; refine (HE.out _ _ _ hv5 hu5).mono ?_; rintro e w6 ⟨rfl, hg6⟩; have g6 := grown_trans g5 hg6; have hK6 := HK.out _ g6)))
  go_wp2
  go_ret
  exact ⟨rfl, g6⟩
end Go.Proofs.YtahjckcfcdnlmaaGreatDoor
/- Numbers as bytes: plain arithmetic, without the program. -/
namespace Go.Proofs.YtahjckcfcdnlmaaGreatDoor.Oc

/-- What bytes say, the lowest first. -/
def leV : List Int → Int
  | [] => 0
  | x :: r => x + 256 * leV r
/-- Bytes. -/
def Byt (xs : List Int) : Prop := ∀ x ∈ xs, 0 ≤ x ∧ x < 256
/-- The lowest k bytes of N, the lowest first. -/
def leB (N : Int) (k : Nat) : List Int := (List.range k).map fun j => N / 2 ^ (8 * j) % 256
theorem leB_length (N : Int) (k : Nat) : (leB N k).length = k := by simp [leB]

theorem Byt.tail {x : Int} {r : List Int} (h : Byt (x :: r)) : Byt r := fun y hy => h y (List.mem_cons_of_mem _ hy)
theorem Byt.take {xs : List Int} (h : Byt xs) (n : Nat) : Byt (xs.take n) := fun y hy => h y (List.mem_of_mem_take hy)
theorem Byt.drop {xs : List Int} (h : Byt xs) (n : Nat) : Byt (xs.drop n) := fun y hy => h y (List.mem_of_mem_drop hy)
theorem Byt.append {xs ys : List Int} (h : Byt xs) (k : Byt ys) : Byt (xs ++ ys) := fun y hy => (List.mem_append.1 hy).elim (h y) (k y)
theorem byt_leB (N : Int) (k : Nat) : Byt (leB N k) := by
  intro x hx
  simp only [leB, List.mem_map] at hx
  obtain ⟨j, _, rfl⟩ := hx
  omega

theorem pow_succ8 (n : Nat) : (2 : Int) ^ (8 * (n + 1)) = 256 * 2 ^ (8 * n) := by
  rw [show 8 * (n + 1) = 8 * n + 8 from by omega, Int.pow_add]
  omega

theorem leV_bound : ∀ (xs : List Int), Byt xs → 0 ≤ leV xs ∧ leV xs < 2 ^ (8 * xs.length)
  | [], _ => by simp [leV]
  | x :: r, h => by
    have ih := leV_bound r h.tail
    have hx := h x (List.mem_cons_self ..)
    rw [List.length_cons, pow_succ8]
    simp only [leV]
    omega

theorem leV_snoc : ∀ (xs : List Int) (y : Int), leV (xs ++ [y]) = leV xs + 2 ^ (8 * xs.length) * y
  | [], y => by simp [leV]
  | x :: r, y => by
    simp only [List.cons_append, leV, leV_snoc r y, List.length_cons, pow_succ8]
    rw [Int.mul_add, Int.mul_assoc]
    omega

theorem or_step (xs : List Int) (y : Int) (h : Byt xs) (hy : 0 ≤ y ∧ y < 256) (hl : xs.length < 8) :
    bits .or .u64 (leV xs) (IntKind.u64.wrap (y * 2 ^ (8 * xs.length))) = leV (xs ++ [y]) := by
  obtain ⟨h0, h1⟩ := leV_bound xs h
  obtain ⟨A, hA⟩ := Int.eq_ofNat_of_zero_le h0
  obtain ⟨Y, rfl⟩ := Int.eq_ofNat_of_zero_le hy.1
  have e2 : (2 : Int) ^ (8 * xs.length) = ((2 ^ (8 * xs.length) : Nat) : Int) := by simp
  have hP : 2 ^ (8 * xs.length) * 256 ≤ 18446744073709551616 := by
    have : 2 ^ (8 * xs.length) * 256 = 2 ^ (8 * xs.length + 8) := by rw [Nat.pow_add]
    rw [this]
    exact Nat.pow_le_pow_right (by omega) (show 8 * xs.length + 8 ≤ 64 by omega)
  have hY : Y < 256 := by omega
  have hAlt : A < 2 ^ (8 * xs.length) := by rw [hA, e2] at h1; omega
  have hm : 2 ^ (8 * xs.length) * Y < 18446744073709551616 := by
    have : 2 ^ (8 * xs.length) * Y ≤ 2 ^ (8 * xs.length) * 255 := Nat.mul_le_mul_left _ (by omega)
    omega
  rw [leV_snoc, hA, e2, IntKind.wrap_u64]
  generalize hPd : 2 ^ (8 * xs.length) = p at *
  have e3 : (Y : Int) * (p : Int) = ((p * Y : Nat) : Int) := by rw [Nat.mul_comm]; simp
  rw [e3, Int.emod_eq_of_lt (by omega) (by omega)]
  rw [u64_or _ _ (by omega) (by omega) (by omega) (by omega)]
  have e4 : p * Y + A = p * Y ||| A := by rw [← hPd]; exact Nat.two_pow_add_eq_or_of_lt (by rw [hPd]; exact hAlt) Y
  rw [Int.toNat_natCast, Int.toNat_natCast, Nat.or_comm, ← e4]
  simp
  omega

theorem leB_succ (N : Int) (k : Nat) : leB N (k + 1) = leB N k ++ [N / 2 ^ (8 * k) % 256] := by simp [leB, List.range_succ]

theorem leV_leB (N : Int) (h : 0 ≤ N) : ∀ k, leV (leB N k) = N % 2 ^ (8 * k)
  | 0 => by simp [leB, leV]
  | k + 1 => by
    rw [leB_succ, leV_snoc, leV_leB N h k, leB_length, pow_succ8]
    have hp : (0 : Int) < 2 ^ (8 * k) := Int.pow_pos (by omega)
    generalize (2 : Int) ^ (8 * k) = p at *
    have := Int.emod_add_mul_ediv N (256 * p)
    have e : N / (256 * p) = N / p / 256 := by rw [Int.mul_comm, Int.ediv_ediv_of_nonneg (by omega)]
    have h1 := Int.emod_add_mul_ediv N p
    have h2 := Int.emod_add_mul_ediv (N / p) 256
    have h3 : p * (N / p) = p * (N / p % 256) + p * 256 * (N / p / 256) := by
      have := congrArg (p * ·) h2
      simp only [Int.mul_add, ← Int.mul_assoc] at this
      omega
    rw [e] at this
    have h4 : 256 * p * (N / p / 256) = p * 256 * (N / p / 256) := by rw [Int.mul_comm 256 p]
    omega
end Go.Proofs.YtahjckcfcdnlmaaGreatDoor.Oc
