/- Texts joined: Aw, La, LaC, LaG, Nq0. -/
import Derived.Test.YtjfhilignbeboabGreatDoorJzAq
import Derived.Test.YtjfhilignbeboabGreatDoorJzAs
import Derived.Test.YtjfhilignbeboabGreatDoorCards
import Derived.Test.YtjfhilignbeboabGreatDoorTie
import Derived.ProofKit
import Derived.OpenShut
import Derived.Deep.DeepHandedRow
import Derived.Lib.LaidTab
import Derived.ChangeOld
import Derived.SizedLaws
import Derived.Test.YtjfhilignbeboabGreatDoorJzAm
namespace Go.Proofs.YtjfhilignbeboabGreatDoor
/- awake: answers that are fixed. -/
open Go.RowKit
attribute [local go_sem ↓] Go.wp_at_zero Go.wp_at_succ
attribute [local go_sem] Oper.semAt_some
def aS : Sb := ⟨3, 2, 1, 2, 4, [⟨1, 0, 9⟩]⟩
theorem aS_ok : aS.Ok := by
  refine ⟨by decide, by decide, by decide, by decide, by decide, by decide, by decide, by decide, by decide, by decide, ?_, ?_, ?_, ?_, ?_, by decide⟩
  · exact List.pairwise_singleton _ _
  · intro x hx; rw [List.mem_singleton.1 hx]; decide
  · intro x hx; rw [List.mem_singleton.1 hx]; decide
  · exact List.pairwise_singleton _ _
  · intro x hx; rw [List.mem_singleton.1 hx]; exact .inr ⟨by decide, by decide⟩
theorem aw_dec : dec aS 37 ⟨1, 7, 0, 2, 5⟩ = ⟨⟨1, 2, 2, 9, 0⟩, ⟨7, 1, 0, 2, 0, 9, 0⟩, true, 0⟩ := by
  have h1 : isChg ⟨1, 7, 0, 2, 5⟩ := by decide
  have h2 : refE aS 37 ⟨1, 7, 0, 2, 5⟩ = 0 := by decide
  rw [dec_yes h1 h2]
  rfl
theorem aw_ans : ans aS ⟨6, 8, 0, 0, 0⟩ = (⟨8, 6, 0, 1, 0, 9, 0⟩, 0) := by
  have h1 : isAsk ⟨6, 8, 0, 0, 0⟩ := by decide
  unfold ans
  rw [if_pos h1]
  rfl
theorem q_ok {k t i s u : Int} (h : (-9223372036854775808 ≤ k ∧ k ≤ 9223372036854775807) ∧ (0 ≤ t ∧ t < 4294967296) ∧ (0 ≤ i ∧ i < 4294967296) ∧ (-9223372036854775808 ≤ s ∧ s ≤ 9223372036854775807) ∧ (-9223372036854775808 ≤ u ∧ u ≤ 9223372036854775807)) : Rs.Rq.Ok ⟨k, t, i, s, u⟩ := ⟨h.1.1, h.1.2, h.2.1.1, h.2.1.2, h.2.2.1.1, h.2.2.1.2, h.2.2.2.1.1, h.2.2.2.1.2, h.2.2.2.2.1, h.2.2.2.2.2⟩
/-- A book and boxes, as a law goes on. -/
theorem Lk.mt {w W W' : World} {b : Nat} {S : Sb} {K : Nat} {p : Bp} {Bs : List (Nat × List Value × TypeId)} (h : Lk w W b S K p Bs) (m : Mt W W' p S K []) : Lk w W' b S K p Bs := h.step (Bst.keep m.st) m.bk
theorem bga_one (w : World) : BgA (w.alloc (.cells [Value.int .u32 1, .int .i64 0, .int .i64 9].toArray 34)) (.slice (some ⟨w.heap.size, 0, none⟩) 1 1) [⟨1, 0, 9⟩] := by
  obtain ⟨a0, a1, a2, -⟩ := box3 (heap_alloc_new w (.cells [Value.int .u32 1, .int .i64 0, .int .i64 9].toArray 34))
  refine ⟨⟨some ⟨w.heap.size, 0, none⟩, 1, rfl, fun i hi => ?_⟩⟩
  have : i = 0 := by simp at hi; omega
  subst this
  exact ⟨w.heap.size, rfl, a0, a1, a2⟩
theorem Lk.decide {w W : World} {b : Nat} {S : Sb} {K : Nat} {p : Bp} {Bs : List (Nat × List Value × TypeId)} (h : Lk w W b S K p Bs) (ho : S.Ok) (hT : Rk.Tab w) (room : Int) (q : Rs.Rq) (hq : q.Ok) : Calls Tryz.prog 23 #[.pointer (some ⟨b, 0, none⟩), .int .i64 room, Rs.rqV q] W fun e w' => e = .returned (dcV (dec S room q)) ∧ Lk w w' b S K p Bs := by
  have := decide_any h.bk ho room q hq (hT.grown h.gr (by simp))
  rw [h.eb] at this
  exact this.mono (fun e w' x => ⟨x.1, h.mt x.2⟩)
theorem Lk.answer {w W : World} {b : Nat} {S : Sb} {K : Nat} {p : Bp} {Bs : List (Nat × List Value × TypeId)} (h : Lk w W b S K p Bs) (ho : S.Ok) (q : Rs.Rq) (hq : q.Ok) : Calls Tryz.prog 6 #[.pointer (some ⟨b, 0, none⟩), Rs.rqV q] W fun e w' => e = .returned (anV (ans S q)) ∧ Lk w w' b S K p Bs := by
  have := answer_any h.bk ho q hq
  rw [h.eb] at this
  exact this.mono (fun e w' x => ⟨x.1, h.mt x.2⟩)
theorem Lk.b0 {w W : World} {b : Nat} {S : Sb} {K : Nat} {p : Bp} {x : Nat × List Value × TypeId} {Bs : List (Nat × List Value × TypeId)} (h : Lk w W b S K p (x :: Bs)) : W.heap[x.1]? = some (.cells x.2.1.toArray x.2.2 (0, 0)) := (h.bx x (List.mem_cons_self ..)).1
theorem Lk.b1 {w W : World} {b : Nat} {S : Sb} {K : Nat} {p : Bp} {y x : Nat × List Value × TypeId} {Bs : List (Nat × List Value × TypeId)} (h : Lk w W b S K p (y :: x :: Bs)) : W.heap[x.1]? = some (.cells x.2.1.toArray x.2.2 (0, 0)) := (h.bx x (List.mem_cons_of_mem _ (List.mem_cons_self ..))).1
theorem Lk.b2 {w W : World} {b : Nat} {S : Sb} {K : Nat} {p : Bp} {z y x : Nat × List Value × TypeId} {Bs : List (Nat × List Value × TypeId)} (h : Lk w W b S K p (z :: y :: x :: Bs)) : W.heap[x.1]? = some (.cells x.2.1.toArray x.2.2 (0, 0)) := (h.bx x (List.mem_cons_of_mem _ (List.mem_cons_of_mem _ (List.mem_cons_self ..)))).1
theorem Lk.b3 {w W : World} {b : Nat} {S : Sb} {K : Nat} {p : Bp} {u z y x : Nat × List Value × TypeId} {Bs : List (Nat × List Value × TypeId)} (h : Lk w W b S K p (u :: z :: y :: x :: Bs)) : W.heap[x.1]? = some (.cells x.2.1.toArray x.2.2 (0, 0)) := (h.bx x (List.mem_cons_of_mem _ (List.mem_cons_of_mem _ (List.mem_cons_of_mem _ (List.mem_cons_self ..))))).1
theorem Lk.box2 {w W : World} {b : Nat} {S : Sb} {K : Nat} {p : Bp} {Bs : List (Nat × List Value × TypeId)} (h : Lk w W b S K p Bs) (cs ds : List Value) (s t : TypeId) : Lk w ((W.alloc (.cells cs.toArray s)).alloc (.cells ds.toArray t)) b S K p ((W.heap.size + 1, ds, t) :: (W.heap.size, cs, s) :: Bs) := by
  have m0 := (h.box cs s).box ds t
  rw [show (W.alloc (.cells cs.toArray s)).heap.size = W.heap.size + 1 from by show (W.heap.push _).size = _; simp] at m0
  exact m0
set_option maxRecDepth 20000 in
set_option maxHeartbeats 8000000 in
theorem awake_any (w : World) (hT : Rk.Tab w) : Calls Tryz.prog 8 #[] w fun e w' => e = .returned (.bool true) ∧ w.grownBy w' none := by
  have hz : 0 < w.heap.size := by
    have := hT 0 (by decide)
    cases hb : w.heap[0]? with
    | none => simp [World.cell?, hb] at this
    | some o => exact row_lt hb
  have g0 := grown_alloc w (.cells [Value.int .u32 1, .int .i64 0, .int .i64 9].toArray 34)
  have HOf := hide (of_ok (w := w.alloc (.cells [Value.int .u32 1, .int .i64 0, .int .i64 9].toArray 34)) (v := .slice (some ⟨w.heap.size, 0, none⟩) 1 1) (a := 3) (b := 2) (c := 1) (n := 2) (t := 4) (L := [⟨1, 0, 9⟩]) aS_ok (bga_one w) (Nat.lt_of_lt_of_le hz g0.size))
  have HT := hide hT
  have HG := hide g0
  clear hT hz g0
  unfold limV at HOf
  go_enter Tryz.func8, Tryz.ntmps8
  go_wp2_with fail
  refine HOf.out.mono ?_
  rintro e w1 ⟨b, p, rfl, hK⟩
  have HK1 : Hid (Lk w w1 b aS 4096 p []) := hK.base HG.out
  have HD : Hid (∀ W, Lk w W b aS 4096 p [] → Calls Tryz.prog 23 #[.pointer (some ⟨b, 0, none⟩), .int .i64 37, .agg #[.int .i64 1, .int .u32 7, .int .u32 0, .int .i64 2, .int .i64 5]] W fun e w' => e = .returned (.tuple #[.agg #[Value.int .i64 1, .int .u32 2, .int .i64 2, .int .i64 9, .int .i64 0], .agg #[Value.int .u32 7, .int .i64 1, .int .i64 0, .int .u32 2, .int .i64 0, .int .i64 9, .int .i64 0], .bool true, .int .i64 0]) ∧ Lk w w' b aS 4096 p []) := fun W h => by
    have := h.decide aS_ok HT.out 37 ⟨1, 7, 0, 2, 5⟩ (q_ok (by decide))
    rw [aw_dec] at this
    exact this
  have HA : Hid (∀ W Bs, Lk w W b aS 4096 p Bs → Calls Tryz.prog 6 #[.pointer (some ⟨b, 0, none⟩), .agg #[.int .i64 6, .int .u32 8, .int .u32 0, .int .i64 0, .int .i64 0]] W fun e w' => e = .returned (.tuple #[.agg #[Value.int .u32 8, .int .i64 6, .int .i64 0, .int .u32 1, .int .i64 0, .int .i64 9, .int .i64 0], .int .i64 0]) ∧ Lk w w' b aS 4096 p Bs) := fun W Bs h => by
    have := h.answer aS_ok ⟨6, 8, 0, 0, 0⟩ (q_ok (by decide))
    rw [aw_ans] at this
    exact this
  clear hK HOf HG HT
  go_wp2_with fail
  refine (HD.out _ HK1.out).mono ?_
  rintro e w2 ⟨rfl, hK2⟩
  have K2 := hide (hK2.box2 [Value.int .i64 1, .int .u32 2, .int .i64 2, .int .i64 9, .int .i64 0] [Value.int .u32 7, .int .i64 1, .int .i64 0, .int .u32 2, .int .i64 0, .int .i64 9, .int .i64 0] 56 38)
  clear hK2 HD HK1
  go_wp2_with fail
  generalize hX : w2.heap.size = X at *
  clear hX
  generalize World.alloc (World.alloc w2 _) _ = w3 at *
  refine (HA.out _ _ K2.out).mono ?_
  rintro e w4 ⟨rfl, hK4⟩
  have K4 := hide (hK4.box [Value.int .u32 8, .int .i64 6, .int .i64 0, .int .u32 1, .int .i64 0, .int .i64 9, .int .i64 0] 38)
  clear hK4 K2 HA
  obtain ⟨z0, z1, z2, z3, z4, z5, z6⟩ := bx7 K4.out.b0
  obtain ⟨y0, y1, y2, y3, y4, y5, y6⟩ := bx7 K4.out.b1
  obtain ⟨x0, x1, x2, x3, x4⟩ := bx5 K4.out.b2
  go_wp2
  go_ret
  exact ⟨rfl, K4.out.gr⟩
end Go.Proofs.YtjfhilignbeboabGreatDoor
/- What the rows' listed table gives; a world for the witnesses; arguments that are rows of bytes, records: shared by the rows' proofs. -/
namespace Go.Proofs.YtjfhilignbeboabGreatDoor
open Go.ChangeShapes Go.WideShapes Go.ChangeAt Go.RowKit Go.Deep

theorem seat_own : ownKnob Tryz.prog.godebug = none := by kernel_rfl
theorem seat_laid : laidOutB Tryz.prog = true := by kernel_rfl
theorem gTab : Tryz.prog.globalNamed "gangway/records.fieldsOf" = some 0 := by kernel_rfl
theorem gTabType : (Tryz.prog.globals[0]?).map (·.type) = some 195 := by kernel_rfl
theorem cells160 : Tryz.prog.cellsOf 195 = 24 := by kernel_rfl
theorem cells159 : Tryz.prog.cellsOf 194 = 4 := by kernel_rfl
theorem cells4 : Tryz.prog.cellsOf 4 = 1 := by kernel_rfl
theorem cellsOf24 : Tryz.prog.cellsOf 23 = 1 := by kernel_rfl
theorem cellsOf3 : Tryz.prog.cellsOf 3 = 1 := by kernel_rfl
theorem cellsOf2 : Tryz.prog.cellsOf 2 = 1 := by kernel_rfl
theorem listOf4 {α : Type} {l : List α} (h : l.length = 4) : ∃ a b c d, l = [a, b, c, d] := by
  match l, h with
  | [a, b, c, d], _ => exact ⟨a, b, c, d, rfl⟩
variable {H : Type} {enc : TypeId × Value → H}
/-- Four bools that read as such lie so. -/
theorem cells_fields {w : World} {base : Nat} {sp : Nat → Bool} {held : Bool} {fuel : Nat} {cs : List Value} {a b c d : Bool} {p : List MemPlace}
    (h : DataW.trod enc Tryz.prog w base sp held fuel 194 cs = some (.agg [.lit (.bool a), .lit (.bool b), .lit (.bool c), .lit (.bool d)], p)) : cs = [.bool a, .bool b, .bool c, .bool d] := by
  obtain ⟨xs, n, _, hx, hl, hsz, hf⟩ := DataW.trod_struct Tryz.underlying194 h
  rw [cells159] at hl
  obtain ⟨v0, v1, v2, v3, rfl⟩ := listOf4 hl
  obtain ⟨y0, y1, y2, y3, rfl⟩ := listOf4 (show xs.length = 4 from hsz)
  have f0 : DataW.trod enc Tryz.prog w base sp held n 4 [v0] = some y0 := by simpa [cells4] using hf 0 _ rfl
  have f1 : DataW.trod enc Tryz.prog w base sp held n 4 [v1] = some y1 := by simpa [cells4] using hf 1 _ rfl
  have f2 : DataW.trod enc Tryz.prog w base sp held n 4 [v2] = some y2 := by simpa [cells4] using hf 2 _ rfl
  have f3 : DataW.trod enc Tryz.prog w base sp held n 4 [v3] = some y3 := by simpa [cells4] using hf 3 _ rfl
  obtain ⟨b0, e0, rfl⟩ := DataW.trod_bool Tryz.underlying4 f0
  obtain ⟨b1, e1, rfl⟩ := DataW.trod_bool Tryz.underlying4 f1
  obtain ⟨b2, e2, rfl⟩ := DataW.trod_bool Tryz.underlying4 f2
  obtain ⟨b3, e3, rfl⟩ := DataW.trod_bool Tryz.underlying4 f3
  have hd := congrArg Prod.fst hx
  simp at hd e0 e1 e2 e3
  obtain ⟨rfl, rfl, rfl, rfl⟩ := hd
  rw [e0, e1, e2, e3]
theorem table {W : World} (h : laidMetH Tryz.prog [("gangway/records.fieldsOf", Rows.laid_gangway_records_fieldsOf)] W) : Rk.Tab W := by
  have h' : laidMet Tryz.prog [("gangway/records.fieldsOf", Rows.laid_gangway_records_fieldsOf)] W := h
  obtain ⟨ps, ⟨g', t', cs, fuel, p, q, hg', ht', hvar, hd, _, _⟩, _⟩ := h'
  obtain rfl := Option.some.inj (gTab.symm.trans hg')
  obtain rfl := Option.some.inj (gTabType.symm.trans ht')
  cases fuel with
  | zero => simp [DataW.trod] at hd
  | succ fuel =>
    simp only [DataW.trod, Tryz.underlying195, cells160, cells159] at hd
    split at hd
    · rename_i hl
      obtain ⟨xs, hm, hx⟩ := Option.map_eq_some_iff.1 hd
      have hxs := congrArg Prod.fst hx
      simp only [Rows.laid_gangway_records_fieldsOf, DataW.agg.injEq] at hxs
      have key : ∀ i (a b c d : Bool), i < 6 → (xs.map (·.1))[i]? = some (.agg [.lit (.bool a), .lit (.bool b), .lit (.bool c), .lit (.bool d)]) → (cs.toList.drop (i * 4)).take 4 = [.bool a, .bool b, .bool c, .bool d] := by
        intro i a b c d hi he
        obtain ⟨y, hy, hf⟩ := Lib.mapM_at hm i i (by simp [hi])
        rw [List.getElem?_map, hy] at he
        obtain ⟨y1, y2⟩ := y
        simp at he
        subst he
        exact cells_fields hf
      rw [hxs] at key
      have k0 := key 0 _ _ _ _ (by decide) rfl
      have k1 := key 1 _ _ _ _ (by decide) rfl
      have k2 := key 2 _ _ _ _ (by decide) rfl
      have k3 := key 3 _ _ _ _ (by decide) rfl
      have k4 := key 4 _ _ _ _ (by decide) rfl
      have k5 := key 5 _ _ _ _ (by decide) rfl
      have hall : cs.toList = Rk.tabB.map Value.bool := by
        have e : cs.toList = (cs.toList.drop (0 * 4)).take 4 ++ ((cs.toList.drop (1 * 4)).take 4 ++ ((cs.toList.drop (2 * 4)).take 4 ++ ((cs.toList.drop (3 * 4)).take 4 ++ ((cs.toList.drop (4 * 4)).take 4 ++ (cs.toList.drop (5 * 4)).take 4)))) := by
          have s : ∀ n, cs.toList.drop n = (cs.toList.drop n).take 4 ++ cs.toList.drop (n + 4) := by
            intro n
            conv => lhs; rw [← List.take_append_drop 4 (cs.toList.drop n), List.drop_drop]
          have z : (cs.toList.drop (5 * 4)).take 4 = cs.toList.drop (5 * 4) := List.take_of_length_le (by rw [List.length_drop, hl]; decide)
          rw [z, ← s (4 * 4), ← s (3 * 4), ← s (2 * 4), ← s (1 * 4), ← s (0 * 4)]
          simp
        rw [e, k0, k1, k2, k3, k4, k5]
        rfl
      intro j hj
      have := World.var?_cell gTab hvar j
      rw [this, show cs[j]? = cs.toList[j]? by simp, hall, List.getElem?_map, List.getD_eq_getElem?_getD]
      have hjl : j < Rk.tabB.length := hj
      rw [List.getElem?_eq_getElem hjl]
      rfl
    · cases hd
/-- A world for the witness: the table (block 0) holding what its initialiser lays. -/
noncomputable def laidWorld (os : Os) : World :=
  { World.holding Tryz.prog os ⟨#[], #[], []⟩ with heap := (World.holding Tryz.prog os ⟨#[], #[], []⟩).heap.modify 0 fun
      | .cells _ t frozen => .cells (Rk.tabB.map Value.bool).toArray t frozen
      | o => o }
end Go.Proofs.YtjfhilignbeboabGreatDoor
namespace Go.Proofs.YtjfhilignbeboabGreatDoor
/- An argument that is a slice of changes. -/
open Go.ChangeShapes Go.WideShapes Go.ChangeAt Go.RowKit Go.Deep
section
variable {H : Type} {enc : TypeId × Value → H}
theorem cellsOf73 : Tryz.prog.cellsOf 83 = 4 := by kernel_rfl
theorem open_cg {w : World} {base n : Nat} {spare : Nat → Bool} {held : Bool} {a : Addr} {cs : List Value} {x : DataW H × List MemPlace} (hc : w.cells? base a 4 = some cs) (h : DataW.trod enc Tryz.prog w base spare held n 83 cs = some x) :
    ∃ r : Cg, a = ⟨a.block, a.off, none⟩ ∧ w.cell? ⟨a.block, a.off, none⟩ = some (.int .i64 r.k) ∧ w.cell? ⟨a.block, a.off + 1, none⟩ = some (.int .i64 r.i) ∧ w.cell? ⟨a.block, a.off + 2, none⟩ = some (.int .i64 r.s) ∧ w.cell? ⟨a.block, a.off + 3, none⟩ = some (.int .i64 r.t) := by
  obtain ⟨_, hlen, hcell⟩ := World.cells?_some hc
  obtain ⟨xs, n, _, rfl, hl, hsz, hf⟩ := DataW.trod_struct Tryz.underlying83 h
  obtain ⟨v0, v1, v2, v3, rfl⟩ := listOf4 hlen
  obtain ⟨y0, y1, y2, y3, rfl⟩ := listOf4 (show xs.length = 4 from hsz)
  clear hl hsz
  have f0 : DataW.trod enc Tryz.prog w base spare held n 3 [v0] = some y0 := by simpa [cellsOf3] using hf 0 _ rfl
  have f1 : DataW.trod enc Tryz.prog w base spare held n 3 [v1] = some y1 := by simpa [cellsOf3] using hf 1 _ rfl
  have f2 : DataW.trod enc Tryz.prog w base spare held n 3 [v2] = some y2 := by simpa [cellsOf3] using hf 2 _ rfl
  have f3 : DataW.trod enc Tryz.prog w base spare held n 3 [v3] = some y3 := by simpa [cellsOf3] using hf 3 _ rfl
  obtain ⟨b0, e0, rfl, wa⟩ := DataW.trod_int Tryz.underlying3 f0
  obtain ⟨b1, e1, rfl, wb⟩ := DataW.trod_int Tryz.underlying3 f1
  obtain ⟨b2, e2, rfl, wc⟩ := DataW.trod_int Tryz.underlying3 f2
  obtain ⟨b3, e3, rfl, wd⟩ := DataW.trod_int Tryz.underlying3 f3
  simp only [List.cons.injEq, and_true] at e0 e1 e2 e3
  subst e0 e1 e2 e3
  have g0 := hcell 0 (by omega)
  have ha : a = ⟨a.block, a.off, none⟩ := by
    have h1 : w.cell? a = some (.int .i64 b0) := by simpa [Addr.add] using g0
    have h2 : a.spot = none := by
      unfold World.cell? at h1
      split at h1
      · split at h1
        · cases h1
        · rename_i hs; simpa using hs
      · cases h1
    cases a; simp_all
  rw [ha] at hcell
  refine ⟨⟨b0, b1, b2, b3⟩, ha, ?_, ?_, ?_, ?_⟩
  · simpa [Addr.add_lit] using hcell 0 (by omega)
  · simpa [Addr.add_lit] using hcell 1 (by omega)
  · simpa [Addr.add_lit] using hcell 2 (by omega)
  · simpa [Addr.add_lit] using hcell 3 (by omega)
theorem open_cgsB {w : World} {base len n : Nat} {spare : Nat → Bool} {held : Bool} {a : Addr} {D : Nat → DataW H} {Pl : Nat → List MemPlace}
    (h : ∀ i, i < len → ∃ cs', w.cells? base (a.add (i * 4)) 4 = some cs' ∧ DataW.trod enc Tryz.prog w base spare held n 83 cs' = some (D i, Pl i)) :
    ∃ os : List Cg, os.length = len ∧ CgsAt w (some a) os := by
  have hex : ∀ i, i < len → ∃ r : Cg, ∃ blk off, some a = some (⟨blk, off, none⟩ : Addr) ∧ w.cell? ⟨blk, off + i * 4, none⟩ = some (.int .i64 r.k) ∧ w.cell? ⟨blk, off + i * 4 + 1, none⟩ = some (.int .i64 r.i) ∧ w.cell? ⟨blk, off + i * 4 + 2, none⟩ = some (.int .i64 r.s) ∧ w.cell? ⟨blk, off + i * 4 + 3, none⟩ = some (.int .i64 r.t) := by
    intro i hi
    obtain ⟨cs', hc, ht⟩ := h i hi
    obtain ⟨o, _, h1, h2, h3, h4⟩ := open_cg hc ht
    have ha : a = ⟨a.block, a.off, none⟩ := by
      obtain ⟨cs0, hc0, ht0⟩ := h 0 (by omega)
      obtain ⟨_, he, _⟩ := open_cg hc0 ht0
      simpa [Addr.add] using he
    have e1 : (a.add (i * 4)).block = a.block := by unfold Addr.add; split <;> rfl
    have e2 : (a.add (i * 4)).off = a.off + i * 4 := by rw [ha, Addr.add_lit]
    rw [e1, e2] at h1 h2 h3 h4
    exact ⟨o, a.block, a.off, by rw [← ha], h1, h2, h3, h4⟩
  clear h
  induction len with
  | zero => exact ⟨[], rfl, (fun j o h => by simp at h)⟩
  | succ k ih =>
    obtain ⟨os, h1, h2⟩ := ih (fun i hi => hex i (by omega))
    obtain ⟨o, g1⟩ := hex k (by omega)
    refine ⟨os ++ [o], by simp [h1], ?_⟩
    intro j o' hj
    by_cases hjk : j < os.length
    · rw [List.getElem?_append_left hjk] at hj; exact h2 j o' hj
    · have hlt := (List.getElem?_eq_some_iff.1 hj).1
      have hjk2 : j = k := by simp at hlt; omega
      subst hjk2
      rw [List.getElem?_append_right (by omega), h1, Nat.sub_self] at hj
      simp at hj
      subst hj
      exact g1
end
end Go.Proofs.YtjfhilignbeboabGreatDoor
namespace Go.Proofs.YtjfhilignbeboabGreatDoor
/- Arguments that are an ask, a flight. -/
open Go.ChangeShapes Go.WideShapes Go.ChangeAt Go.RowKit Go.Deep
section
variable {H : Type} {enc : TypeId × Value → H}
theorem cellsOf55 : Tryz.prog.cellsOf 25 = 4 := by kernel_rfl
theorem cellsOf53 : Tryz.prog.cellsOf 22 = 1 := by kernel_rfl
set_option maxRecDepth 20000 in
theorem open_flightArg {w : World} {r : Reach} {b0 : Nat} {v : Value} {d : DataW H} {ps : List MemPlace} (hval : Value.okWide Tryz.prog w r b0 25 v) (hd : DataW.Trod enc Tryz.prog w 0 (fun _ => true) true 25 v d ps) :
    ∃ (x : Int) (ao : Option Addr) (cap : Nat) (l : List Cg) (nx ck : Int), v = .agg #[.int .i64 x, .slice ao l.length cap, .int .u32 nx, .int .i64 ck] ∧ CgsAt w ao l ∧ l.length ≤ cap ∧ (-9223372036854775808 ≤ x ∧ x ≤ 9223372036854775807) ∧ (0 ≤ nx ∧ nx < 4294967296) ∧ (-9223372036854775808 ≤ ck ∧ ck ≤ 9223372036854775807) := by
  obtain ⟨cs, rfl, _⟩ := okWide_struct Tryz.underlying25 hval
  obtain ⟨fuel, h⟩ := hd
  have h : DataW.trod enc Tryz.prog w 0 (fun _ => true) true fuel 25 cs.toList = some (d, ps) := h
  obtain ⟨xs, n, _, hx, hl, hsz, hf⟩ := DataW.trod_struct Tryz.underlying25 h
  rw [cellsOf55] at hl
  obtain ⟨v0, v1, v2, v3, hc⟩ := listOf4 hl
  obtain ⟨y0, y1, y2, y3, rfl⟩ := listOf4 (show xs.length = 4 from hsz)
  rw [hc] at hf
  have f0 : DataW.trod enc Tryz.prog w 0 (fun _ => true) true n 3 [v0] = some y0 := by simpa [cellsOf3] using hf 0 _ rfl
  have f1 : DataW.trod enc Tryz.prog w 0 (fun _ => true) true n 22 [v1] = some y1 := by simpa [cellsOf53] using hf 1 _ rfl
  have f2 : DataW.trod enc Tryz.prog w 0 (fun _ => true) true n 23 [v2] = some y2 := by simpa [cellsOf24] using hf 2 _ rfl
  have f3 : DataW.trod enc Tryz.prog w 0 (fun _ => true) true n 2 [v3] = some y3 := by simpa [cellsOf2] using hf 3 _ rfl
  obtain ⟨a, e0, rfl, wa⟩ := DataW.trod_int Tryz.underlying3 f0
  obtain ⟨b, e2, rfl, wb⟩ := DataW.trod_int Tryz.underlying23 f2
  obtain ⟨c, e3, rfl, wc⟩ := DataW.trod_int Tryz.underlying2 f3
  simp only [List.cons.injEq, and_true] at e0 e2 e3
  have ba := bounds_i64 wa
  have bb := bounds_u32 wb
  have bc := bounds_i64 wc
  have key : ∃ (ao : Option Addr) (cap : Nat) (l : List Cg), v1 = .slice ao l.length cap ∧ CgsAt w ao l ∧ l.length ≤ cap := by
    rcases open_slice Tryz.underlying22 f1 with ⟨hcs, _⟩ | ⟨a', len, cap, m, n', D, Pl, hcs, _, hl', hm, hmm, hx', hel⟩
    · simp only [List.cons.injEq, and_true] at hcs
      exact ⟨none, 0, [], hcs, (fun j o h => by simp at h), Nat.le_refl _⟩
    · simp only [List.cons.injEq, and_true] at hcs
      have hlm : len ≤ m := by rw [hmm]; split <;> omega
      rw [cellsOf73] at hel
      obtain ⟨os, h1, h2⟩ := open_cgsB (len := len) (fun i hi => hel i (by omega))
      exact ⟨_, cap, os, by rw [h1]; exact hcs, h2, by rw [h1]; exact hl'⟩
  obtain ⟨ao, cap, l, e1, hC, hle⟩ := key
  refine ⟨a, ao, cap, l, b, c, ?_, hC, hle, by omega, by omega, by omega⟩
  rw [e0, e1, e2, e3] at hc
  congr 1
  cases cs
  simpa using hc
end
end Go.Proofs.YtjfhilignbeboabGreatDoor
namespace Go.Proofs.YtjfhilignbeboabGreatDoor
/- The law CasesQuestions: numbers alone. -/
/-- How many of the first j are so. -/
def cF (P : Nat → Bool) : Nat → Nat
  | 0 => 0
  | j + 1 => cF P j + (if P j then 1 else 0)
theorem cF_le (P : Nat → Bool) : ∀ j, cF P j ≤ j
  | 0 => Nat.le_refl _
  | j + 1 => by have := cF_le P j; unfold cF; split <;> omega
theorem cF_one (P : Nat → Bool) (k : Nat) (hk : P k = false) : ∀ j, cF (fun i => (k == i) || P i) j = cF P j + (if k < j then 1 else 0)
  | 0 => by simp [cF]
  | j + 1 => by
    have ih := cF_one P k hk j
    unfold cF
    rw [ih]
    by_cases h : k = j
    · subst h
      simp [hk]
    · have h1 : (k == j) = false := by simpa using h
      rw [h1, Bool.false_or]
      by_cases h2 : k < j
      · rw [show (if k < j then 1 else 0) = 1 from if_pos h2, show (if k < j + 1 then 1 else 0) = 1 from if_pos (by omega)]; omega
      · rw [show (if k < j then 1 else 0) = 0 from if_neg h2, show (if k < j + 1 then 1 else 0) = 0 from if_neg (by omega)]; omega
theorem cF_up (P : Nat → Bool) (k : Nat) : ∀ j, cF (fun i => (k == i) || P i) j ≤ cF P j + (if k < j then 1 else 0)
  | 0 => by simp [cF]
  | j + 1 => by
    have ih := cF_up P k j
    unfold cF
    by_cases h : k = j
    · subst h
      rw [show (if k < k then 1 else 0) = 0 from if_neg (Nat.lt_irrefl k)] at ih
      rw [show (if k < k + 1 then 1 else 0) = 1 from if_pos (Nat.lt_succ_self k)]
      split <;> split <;> omega
    · have h1 : (k == j) = false := by simpa using h
      rw [h1, Bool.false_or]
      by_cases h2 : k < j
      · rw [show (if k < j then 1 else 0) = 1 from if_pos h2] at ih; rw [show (if k < j + 1 then 1 else 0) = 1 from if_pos (by omega)]; omega
      · rw [show (if k < j then 1 else 0) = 0 from if_neg h2] at ih; rw [show (if k < j + 1 then 1 else 0) = 0 from if_neg (by omega)]; omega
theorem fnd_cons (x : Bg) (l : List Bg) (i : Nat) : (fnd (x :: l) i).isSome = ((x.i == i) || (fnd l i).isSome) := by
  unfold fnd
  rw [List.find?_cons]
  split <;> simp_all
theorem sat_cons (x : Bg) (l : List Bg) (i : Nat) : (sat (x :: l) i).isSome = ((x.s == i) || (sat l i).isSome) := by
  unfold sat
  rw [List.find?_cons]
  split <;> simp_all
theorem found_le (L : List Bg) (j : Nat) : cF (fun i => (fnd L i).isSome) j ≤ L.length := by
  induction L with
  | nil =>
    have : ∀ j, cF (fun i => (fnd [] i).isSome) j = 0 := by
      intro j
      induction j with
      | zero => rfl
      | succ j ih => unfold cF; rw [ih]; rfl
    rw [this]; exact Nat.zero_le _
  | cons x l ih =>
    rw [show (fun i => (fnd (x :: l) i).isSome) = fun i => (x.i == i) || (fnd l i).isSome from funext (fnd_cons x l)]
    have := cF_up (fun i => (fnd l i).isSome) x.i j
    rw [List.length_cons]
    split at this <;> omega
theorem seats_eq {a : Nat} (L : List Bg) (ho : OneS L) (hs : ∀ x ∈ L, x.s < a) (j : Nat) (hj : a ≤ j) : cF (fun i => (sat L i).isSome) j = L.length := by
  induction L with
  | nil =>
    have : ∀ j, cF (fun i => (sat [] i).isSome) j = 0 := by
      intro j
      induction j with
      | zero => rfl
      | succ j ih => unfold cF; rw [ih]; rfl
    rw [this]; rfl
  | cons x l ih =>
    obtain ⟨h1, h2⟩ := List.pairwise_cons.1 ho
    rw [show (fun i => (sat (x :: l) i).isSome) = fun i => (x.s == i) || (sat l i).isSome from funext (sat_cons x l)]
    rw [cF_one (fun i => (sat l i).isSome) x.s ?_ j, ih h2 (fun y hy => hs y (List.mem_cons_of_mem _ hy)), List.length_cons, if_pos (Nat.lt_of_lt_of_le (hs x (List.mem_cons_self ..)) hj)]
    have : sat l x.s = none := sat_none.2 (fun y hy e => h1 y hy e.symm)
    simp [this]
/-- What is answered. -/
theorem ans_five {S : Sb} (t : Int) (i : Nat) (hi : i < 4294967296) : ans S ⟨5, t, (i : Int), 0, 0⟩ = (⟨t, 5, if (fnd S.L i).isSome then 0 else 171, 0, (((fnd S.L i).getD ⟨0, 0, 0⟩).s : Int), ((fnd S.L i).getD ⟨0, 0, 0⟩).u, 0⟩, 0) := by
  have hm : isAsk ⟨5, t, (i : Int), 0, 0⟩ := by
    refine ⟨?_, Or.inl rfl⟩
    unfold Rs.Rq.May Rs.Rq.mayB
    simp [Rs.hI, Rs.hS, Rs.hL, Rs.inP]
    omega
  unfold ans
  rw [if_pos hm]
  unfold ansY idE
  simp only [if_true, Int.toNat_natCast]
theorem ans_six {S : Sb} (t : Int) (i : Nat) (hi : i < 65536) : ans S ⟨6, t, 0, (i : Int), 0⟩ = (⟨t, 6, atE S (i : Int), ((atX S (i : Int)).i : Int), 0, (atX S (i : Int)).u, 0⟩, 0) := by
  have hm : isAsk ⟨6, t, 0, (i : Int), 0⟩ := by
    refine ⟨?_, Or.inr (Or.inl rfl)⟩
    unfold Rs.Rq.May Rs.Rq.mayB
    simp [Rs.hI, Rs.hS, Rs.hL, Rs.inP]
    omega
  unfold ans
  rw [if_pos hm]
  unfold ansY
  simp only [show ¬ ((6 : Int) = 5) from by decide, if_false, if_true]
theorem ans_ten {S : Sb} (t : Int) : ans S ⟨10, t, 0, 0, 0⟩ = (⟨t, 10, 0, 0, 0, 0, (S.L.length : Int)⟩, 0) := by
  have hm : isAsk ⟨10, t, 0, 0, 0⟩ := ⟨by unfold Rs.Rq.May Rs.Rq.mayB; simp [Rs.hI, Rs.hS, Rs.hL, Rs.inP], Or.inr (Or.inr rfl)⟩
  unfold ans
  rw [if_pos hm]
  unfold ansY
  simp only [show ¬ ((10 : Int) = 5) from by decide, show ¬ ((10 : Int) = 6) from by decide, if_false]
/-- Of a booking, by its id, by its seat. -/
theorem ans_id {S : Sb} (ho : S.Ok) (t : Int) {x : Bg} (hx : x ∈ S.L) : ans S ⟨5, t, (x.i : Int), 0, 0⟩ = (⟨t, 5, 0, 0, (x.s : Int), x.u, 0⟩, 0) := by
  have h1 := ho.id x hx
  have h2 := ho.n1
  rw [ans_five t x.i (by omega), (fnd_some ho.asc).2 ⟨hx, rfl⟩]
  rfl
theorem ans_st {S : Sb} (ho : S.Ok) (t : Int) {x : Bg} (hx : x ∈ S.L) : ans S ⟨6, t, 0, (x.s : Int), 0⟩ = (⟨t, 6, 0, (x.i : Int), 0, x.u, 0⟩, 0) := by
  have h1 := ho.st x hx
  have h2 := ho.a1
  rw [ans_six t x.s (by omega)]
  have e : sat S.L x.s = some x := (sat_some ho.one).2 ⟨hx, rfl⟩
  have e1 : atE S (x.s : Int) = 0 := by unfold atE; rw [if_pos ⟨by omega, by omega⟩, Int.toNat_natCast, e]; rfl
  have e2 : atX S (x.s : Int) = x := by unfold atX; rw [if_pos ⟨by omega, by omega⟩, Int.toNat_natCast, e]; rfl
  rw [e1, e2]
/-- Of a seat. -/
theorem at_num (S : Sb) (i : Nat) : (i < S.a ∧ (sat S.L i).isSome = true ∧ atE S (i : Int) = 0) ∨ (i < S.a ∧ (sat S.L i).isSome = false ∧ atE S (i : Int) = 171 ∧ atX S (i : Int) = ⟨0, 0, 0⟩) ∨ (¬ i < S.a ∧ atE S (i : Int) = 140 ∧ atX S (i : Int) = ⟨0, 0, 0⟩) := by
  by_cases h : i < S.a
  · have hh : 0 ≤ (i : Int) ∧ (i : Int) < (S.a : Int) := ⟨by omega, by omega⟩
    cases hq : sat S.L i with
    | some x => exact Or.inl ⟨h, rfl, by unfold atE; rw [if_pos hh, Int.toNat_natCast, hq]; rfl⟩
    | none => exact Or.inr (Or.inl ⟨h, rfl, by unfold atE; rw [if_pos hh, Int.toNat_natCast, hq]; rfl, by unfold atX; rw [if_pos hh, Int.toNat_natCast, hq]; rfl⟩)
  · have hh : ¬ (0 ≤ (i : Int) ∧ (i : Int) < (S.a : Int)) := fun x => h (by omega)
    exact Or.inr (Or.inr ⟨h, by unfold atE; rw [if_neg hh], by unfold atX; rw [if_neg hh]⟩)
end Go.Proofs.YtjfhilignbeboabGreatDoor
