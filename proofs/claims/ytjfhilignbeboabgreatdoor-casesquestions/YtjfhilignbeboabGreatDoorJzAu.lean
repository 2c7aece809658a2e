/- Texts joined: Nq. -/
import Derived.Test.YtjfhilignbeboabGreatDoorJzAt
import Derived.Test.YtjfhilignbeboabGreatDoorJzAs
import Derived.Test.YtjfhilignbeboabGreatDoorJzAh
import Derived.Test.YtjfhilignbeboabGreatDoorJzAm
namespace Go.Proofs.YtjfhilignbeboabGreatDoor
/- The law CasesQuestions. -/
open Go.RowKit Go.Shelf
attribute [local go_sem ↓] Go.wp_at_zero Go.wp_at_succ
attribute [local go_sem] Oper.semAt_some
/-- Beside the range: the book; all that lay ahead of it but the counter. -/
structure GoQ (w W w7 : World) (S : Sb) (p : Bp) (b2 Bk : Nat) : Prop where
  bk : BkAt W p S 4096
  same : ∀ i, i < b2 → ¬ p.own i → i ≠ Bk → W.heap[i]? = w7.heap[i]?
  gr : w.grownBy W none
  sz : b2 ≤ W.heap.size
section
variable {w W W' w7 : World} {S : Sb} {p : Bp} {b2 Bk : Nat}
theorem GoQ.then (h : GoQ w W w7 S p b2 Bk) (g : W.grownBy W' none) : GoQ w W' w7 S p b2 Bk :=
  ⟨h.bk.then g, fun i hi hs hk => (g.block i (Nat.lt_of_lt_of_le hi h.sz) (by simp)).trans (h.same i hi hs hk), grown_trans h.gr g, Nat.le_trans h.sz g.size⟩
theorem GoQ.own_from (h0 : w.heap.size ≤ b2) (hl : p.Lo b2) : OwnFrom b2 (fun (_ : Unit) W => GoQ w W w7 S p b2 Bk) := fun _ W W' row h hg hr =>
  ⟨BkAt.own_from hl () W W' row h.bk hg hr, fun i hi hs hk => (hg.block i (Nat.lt_of_lt_of_le hi h.sz) (fun e => by have := (hr i e.symm).1; omega)).trans (h.same i hi hs hk), grown_then h.gr hg (fun j e => Or.inl (Nat.le_trans h0 (hr j e).1)), Nat.le_trans h.sz hg.size⟩
theorem GoQ.put (h : GoQ w W w7 S p b2 Bk) (h0 : w.heap.size ≤ Bk) (hp : ¬ p.own Bk) (v : Value) : GoQ w (W.setCell ⟨Bk, 0, none⟩ v) w7 S p b2 Bk := by
  have k := kept_setCell W Bk 0 v
  refine ⟨h.bk.far k (fun i hi e2 => hp ?_), fun i hi hs hkk => (k.block i (Nat.lt_of_lt_of_le hi h.sz) hkk).trans (h.same i hi hs hkk), gn_set h.gr h0, Nat.le_trans h.sz k.size⟩
  have e3 : i = Bk := e2
  rw [← e3]; exact hi
theorem GoQ.answer (h : GoQ w W w7 S p b2 Bk) (ho : S.Ok) (hl : p.Lo b2) (hw : ∀ i, p.own i → w.heap.size ≤ i) (Q : Rs.Rq) (hq : Q.Ok) : Calls Tryz.prog 6 #[.pointer (some ⟨p.b, 0, none⟩), Rs.rqV Q] W fun e w' => e = .returned (anV (ans S Q)) ∧ GoQ w w' w7 S p b2 Bk ∧ Kept W w' p.own ∧ KeepsFrom b2 W w' := by
  refine (answer_any h.bk ho Q hq).mono ?_
  rintro e w' ⟨rfl, m⟩
  refine ⟨rfl, ⟨m.bk, fun i hi hs hk => (m.st.block i (Nat.lt_of_lt_of_le hi h.sz) hs).trans (h.same i hi hs hk), ?_, Nat.le_trans h.sz m.st.size⟩, m.st, (Bst.keep m.st).keeps h.bk hl⟩
  exact Kept.grown ((Kept.new h.gr (fun i => w.heap.size ≤ i)).trans m.st (fun i _ e => hw i e)) (fun i hi e => by omega)
end
theorem box_kept {W W' : World} {b : Nat} {t : TypeId} {v : Value} {X : Nat → Prop} (h : Boxed W b t v) (k : Kept W W' X) (hx : ¬ X b) : Boxed W' b t v := by
  unfold Boxed at *
  exact k.at h hx
theorem field_0 {a : Act} {o : Oper} {x : Operand} {p q r : Int} (ho : o.op = .field 44 x 0) (hx : a.eval x = .agg #[.int .i64 p, .int .i64 q, .int .i64 r]) (w : World) : (execOp a.eval o).run Tryz.prog w = .ok (.value (.int .i64 p)) w := by
  obtain ⟨d, op, ty, pos, af, gd⟩ := o
  simp only at ho
  subst ho
  have hfd := fieldA p q r
  simp only [execOp, hx]
  go_simp
theorem results_bq {fn : Func} {p : Tmp} (h : fn.results = #[.cell p 4]) (tmps : Array Value) (w : World) (g : Nat) (v : Value) (hp : tmps.getD p undef = .pointer (some ⟨g, 0, none⟩)) (hc : w.cell? ⟨g, 0, none⟩ = some v) :
    (results fn tmps).run Tryz.prog w = .ok v w := by
  have hp' : tmps[p]?.getD undef = .pointer (some ⟨g, 0, none⟩) := by simpa using hp
  simp [results, h, hp', asAddr]
  go_simp
theorem bx4q {w : World} {g : Nat} {t : TypeId} {x y z u : Value} (h : w.heap[g]? = some (.cells [x, y, z, u].toArray t (0, 0))) : w.cell? ⟨g, 0, none⟩ = some x ∧ w.cell? ⟨g, 1, none⟩ = some y ∧ w.cell? ⟨g, 2, none⟩ = some z ∧ w.cell? ⟨g, 3, none⟩ = some u := ⟨by rw [cell_row h]; rfl, by rw [cell_row h]; rfl, by rw [cell_row h]; rfl, by rw [cell_row h]; rfl⟩
theorem pre_mem {pre X : List Bg} {x : Bg} (h : pre ++ [x] <+: X) : x ∈ X := by
  obtain ⟨t, rfl⟩ := h
  simp
theorem pre_len {pre X : List Bg} {x : Bg} (h : pre ++ [x] <+: X) : pre.length < X.length := by
  obtain ⟨t, rfl⟩ := h
  simp
theorem keepsF_then {B : Nat} {a b c : World} (h : KeepsFrom B a b) (k : KeepsFrom B b c) : KeepsFrom B a c := ⟨Nat.le_trans h.size k.size, fun i o hi ho hc => k.same i o hi (h.same i o hi ho hc) hc⟩
theorem keeps_new {B : Nat} {a b : World} (g : a.grownBy b none) : KeepsFrom B a b := ⟨g.size, fun i o _ ho _ => (g.block i (row_lt ho) (by simp)).trans ho⟩
set_option maxRecDepth 100000 in
set_option maxHeartbeats 64000000 in
theorem questions_any {w : World} (x : Int) {ao : Option Addr} {cap : Nat} (l : List Cg) (nx ck tag : Int) (ht0 : 0 ≤ tag) (ht1 : tag < 4294967296) (hcap : l.length ≤ cap) (hC : CgsAt w ao l) (hn0 : 0 ≤ nx) (hn1 : nx < 4294967296) (hc0 : -9223372036854775808 ≤ ck) (hc1 : ck ≤ 9223372036854775807) (hT : Rk.Tab w) : Calls Tryz.prog 3 #[.agg #[.int .i64 x, .slice ao l.length cap, .int .u32 nx, .int .i64 ck], .int .u32 tag] w fun e w' => e = .returned (.bool true) ∧ w.grownBy w' none := by
  have g0 := grown_alloc3 w (.cells [Value.int .i64 x, .slice ao l.length cap, .int .u32 nx, .int .i64 ck].toArray 25) (.cells [Value.int .u32 tag].toArray 23) (.cells [Value.bool false].toArray 4)
  have HB := hide (books_any x l nx ck hcap (hC.grown g0) hn0 hn1 hc0 hc1)
  have HG0 := hide g0
  have HT := hide (hT.grown g0 (by simp))
  have HX1 := hide (bx4q (new13 w (.cells [Value.int .i64 x, .slice ao l.length cap, .int .u32 nx, .int .i64 ck].toArray 25) (.cells [Value.int .u32 tag].toArray 23) (.cells [Value.bool false].toArray 4)))
  have HX2 := hide (new23 w (.cells [Value.int .i64 x, .slice ao l.length cap, .int .u32 nx, .int .i64 ck].toArray 25) (.cells [Value.int .u32 tag].toArray 23) (.cells [Value.bool false].toArray 4))
  have HX3 := hide (new3 w (.cells [Value.int .i64 x, .slice ao l.length cap, .int .u32 nx, .int .i64 ck].toArray 25) (.cells [Value.int .u32 tag].toArray 23) (.cells [Value.bool false].toArray 4))
  have Htag := hide (And.intro ht0 ht1)
  clear hT hC hcap hn0 hn1 hc0 hc1 g0 ht0 ht1
  obtain ⟨f0, f1, f2, f3⟩ := HX1.out
  clear HX1
  refine (callsIn_wide (n := 6)).1 (callsIn_of_wp_marks Tryz.func3 rfl trivial ?_ rfl)
  simp only [Tryz.ntmps3, List.size_toArray, List.length_cons, List.length_nil, Nat.reduceAdd, Nat.reduceSub, Array.replicate_succ, Array.replicate_zero, List.push_toArray, List.append_toArray, List.nil_append, List.cons_append]
  refine wpIn_wide.2 ?_
  go_wp2_with fail
  generalize World.alloc (World.alloc (World.alloc w _) _) _ = w0 at *
  refine HB.out.mono ?_
  rintro e w2 ⟨b, d, S, p, lo, v, rfl, hB⟩
  have HO := hide hB.ok
  have HSM := hide hB.sm
  have hb2 : ∀ i, p.own i → i < w2.heap.size := fun i hi => hB.lk.bk.lt i hi
  have L2 := hide (hB.lk.box2 [Value.pointer (some ⟨b, 0, none⟩)] [Value.int .i64 0] 26 3)
  have HL0 := hide hB.lk.gr
  clear hB HB f0 f1 f2 f3
  go_upto_region 5 with fail
  generalize hw3 : World.alloc (World.alloc w2 _) _ = w3 at *
  have hz3 : w3.heap.size = w2.heap.size + 2 := by rw [← hw3]; simp
  clear hw3
  have l3 : w3.cell? ⟨w2.heap.size, 0, none⟩ = some (.pointer (some ⟨b, 0, none⟩)) := cell_row L2.out.b1 0
  have hall := all_any L2.out.bk HO.out.wk
  rw [L2.out.eb] at hall
  go_wp2_with fail
  refine hall.mono ?_
  clear hall l3
  rintro e w4 ⟨u, rfl, hV, g4⟩
  have hL4 : S.L.length ≤ 4096 := by have := HO.out.few; have := HO.out.b1; omega
  obtain ⟨B, so, icap, rfl, hI, hBq⟩ := hV
  have L4 := hide (L2.out.then g4)
  have hz4 := g4.size
  have I7 := hide hI
  have HQ : Hid (∀ i, vbk B so S.L.length i → w3.heap.size ≤ i ∧ i < w4.heap.size) := fun i hi => ⟨hBq i hi, hI.lt i hi⟩
  have hn3 : ¬ p.own w2.heap.size := fun e => by have := hb2 _ e; omega
  have hn4 : ¬ p.own (w2.heap.size + 1) := fun e => by have := hb2 _ e; omega
  have hlo : p.Lo w4.heap.size := ⟨L4.out.bk.lt _ ⟨6, Bp.r6 (.inr (.inr (.inr rfl)))⟩, L4.out.bk.lt _ ⟨7, Bp.r7⟩⟩
  have hown : ∀ i, p.own i → w0.heap.size ≤ i := L4.out.own
  have hw0 : w0.heap.size ≤ w2.heap.size := HL0.out.size
  have I0 : Hid (GoQ w0 w4 w4 S p w4.heap.size (w2.heap.size + 1)) := ⟨L4.out.bk, fun _ _ _ _ => rfl, L4.out.gr, Nat.le_refl _⟩
  have KB7 : Hid (Boxed w4 (w2.heap.size + 1) 3 (.int .i64 (([] : List Bg).length : Int))) := L4.out.b0
  have C3 : Hid (∀ W, GoQ w0 W w4 S p w4.heap.size (w2.heap.size + 1) → W.cell? ⟨w2.heap.size, 0, none⟩ = some (.pointer (some ⟨b, 0, none⟩))) := fun W h => cell_row ((h.same w2.heap.size (by omega) hn3 (by omega)).trans L4.out.b1) 0
  have C1 : Hid (∀ W, w0.grownBy W none → W.cell? ⟨w.heap.size + 1, 0, none⟩ = some (.int .u32 tag)) := fun W g => cell_row (box_to HX2.out g) 0
  have C2 : Hid (∀ W, w0.grownBy W none → W.heap[w.heap.size + 2]? = some (.cells [Value.bool false].toArray 4 (0, 0))) := fun W g => box_to HX3.out g
  have HI : Hid (∀ W, GoQ w0 W w4 S p w4.heap.size (w2.heap.size + 1) → ItB W B so icap S.L) := fun W h => I7.out.keep ⟨h.sz, fun i hi hl => h.same i hl (fun e => by have := hb2 _ e; have := (HQ.out i hi).1; omega) (by have := (HQ.out i hi).1; omega)⟩
  have HNo : Hid (∀ i, p.own i → ¬ vbk B so S.L.length i) := fun i hi hv => by have := hb2 _ hi; have := (HQ.out i hv).1; omega
  have EB := hide L4.out.eb
  have HA : Hid (∀ W (Q : Rs.Rq), Q.Ok → GoQ w0 W w4 S p w4.heap.size (w2.heap.size + 1) → Calls Tryz.prog 6 #[.pointer (some ⟨b, 0, none⟩), Rs.rqV Q] W fun e w' => e = .returned (anV (ans S Q)) ∧ GoQ w0 w' w4 S p w4.heap.size (w2.heap.size + 1) ∧ Kept W w' p.own ∧ KeepsFrom w4.heap.size W w') := fun W Q hq h => by
    have := h.answer HO.out hlo hown Q hq
    rw [EB.out] at this
    exact this
  have HW : Hid (∀ W, w0.grownBy W none → Calls Tryz.prog 8 #[] W fun e w' => e = .returned (.bool true) ∧ W.grownBy w' none) := fun W g => awake_any W (HT.out.grown g (by simp))
  have HLO := hide hlo
  have HNN := hide (And.intro hn3 hn4)
  have HBB := hide hb2
  have HZZ : Hid (w.heap.size + 2 < w0.heap.size ∧ w0.heap.size ≤ w2.heap.size ∧ w3.heap.size = w2.heap.size + 2 ∧ w3.heap.size ≤ w4.heap.size) := ⟨row_lt HX3.out, hw0, hz3, hz4⟩
  clear hn3 hn4 hlo hown hI hBq L2 g4 HX2 HX3 hb2
  go_wp2
  refine (wpIn_wide (n := 6)).1 (wpIn_range_V (w := w4) rfl (by decide) (gf := 36) (lb := #[.pointer (some ⟨B, 0, none⟩)]) rfl trivial (enters_of Tryz.func36 (by kernel_rfl) rfl)
    (encs := encB) (Kp := KpB (vbk B so S.L.length)) (V := fun pre x _ => pre ++ [x] <+: S.L) (S := fun ys => ys = S.L)
    (fun W hW => vt_seqV 5 (by decide) B so icap S.L (by omega) W (I7.out.grown hW))
    (fun h k => h.trans k) (fun W l o hl => KpB.put (fun hq => by have := (HQ.out l hq).2; omega)) (fun W W' _ hg => KpB.new hg) (fun _ => rfl)
    (fun pre => fun _ _ _ _ h _ _ => h)
    (fun pre W => GoQ w0 W w4 S p w4.heap.size (w2.heap.size + 1) ∧ Boxed W (w2.heap.size + 1) 3 (.int .i64 (pre.length : Int)))
    (fun c pre W => False)
    (fun pre W W' row h hg hr => ⟨GoQ.own_from (by omega) HLO.out () W W' row h.1 hg hr, box_own_from _ () W W' row h.2 hg hr⟩) (fun c pre W W' row h hg hr => h) ⟨I0.out, KB7.out⟩
    (fun (xx : Bg) (a' : Act) (W : World) => ∃ F : Nat, w4.heap.size ≤ F ∧ a' = { tmps := #[Value.agg #[Value.int IntKind.i64 x, Value.slice ao l.length cap, Value.int IntKind.u32 nx, Value.int IntKind.i64 ck], Value.int IntKind.u32 tag, Value.pointer (some { block := w.heap.size, off := 0 }), Value.pointer (some { block := w.heap.size + 1, off := 0 }), Value.pointer (some { block := w.heap.size + 1 + 1, off := 0 }), Value.pointer (some { block := w2.heap.size, off := 0 }), Value.pointer (some { block := d, off := 0 }), Value.bool true, Value.pointer (some { block := w2.heap.size + 1, off := 0 }), Value.pointer (some { block := F, off := 0 }), undef, undef, undef, undef, undef, undef, undef, undef, undef, undef, undef, undef, undef, Value.tuple #[Value.pointer (some { block := b, off := 0 }), Value.pointer (some { block := d, off := 0 }), Value.bool true], Value.agg #[Value.int IntKind.i64 x, Value.slice ao l.length cap, Value.int IntKind.u32 nx, Value.int IntKind.i64 ck], Value.tuple #[Value.pointer (some { block := b, off := 0 }), Value.pointer (some { block := d, off := 0 }), Value.bool true], Value.pointer (some { block := b, off := 0 }), Value.pointer (some { block := d, off := 0 }), Value.bool true, Value.bool true, Value.bool false, Value.pointer (some { block := b, off := 0 }), Value.func (Fn.func 36) #[] #[Value.pointer (some { block := B, off := 0 })], Value.agg #[Value.int IntKind.u32 (xx.i : Int), Value.int IntKind.i64 (xx.s : Int), Value.int IntKind.i64 xx.u], undef, undef, undef, undef, undef, undef, undef, undef, undef, undef, undef, undef, undef, undef, undef, undef, undef, undef, undef, undef, undef, undef, undef, undef, undef, undef, undef, undef, undef, undef, undef, undef, undef, undef, undef, undef, undef, undef, undef, undef, undef, undef, undef, undef, undef, undef, undef, undef, undef, undef, undef, undef, undef, undef, undef, undef, undef, undef, undef, undef, undef, undef, undef, undef, undef, undef, undef, undef, undef, undef, undef, undef, undef, undef, undef, undef, undef, undef, undef, undef, undef, undef, undef, undef, undef, undef, undef, undef, undef, undef, undef, undef, undef, undef, undef, undef, undef, undef, undef, undef, undef, undef, undef, undef, undef, undef, undef, undef, undef, undef, undef, undef, undef, undef, undef, undef, undef, undef, undef, undef, undef, undef, undef, undef, undef, undef, undef, undef, undef, undef, undef, undef, undef, undef, undef, undef, undef, undef, undef], defers := [] } ∧ W.heap[F]? = some (Obj.cells (bgc xx).toArray 34 (0, 0)))
    (fun x => fun a' W W' row h hg hr => by obtain ⟨F, h0, h1, h2⟩ := h; exact ⟨F, h0, h1, cells_own_from w4.heap.size () W W' row h2 hg hr⟩) ?assign ?body ?done ?stop)
  case assign =>
    rintro lp pre ⟨xi, xs, xu⟩ W K hI hV hK
    simp only [encB, bgV]
    gi_wp2
    exact hK _ _ (grown_alloc W _) ⟨W.heap.size, hI.1.sz, rfl, heap_alloc_new W _⟩
  case body =>
    rintro lp pre ⟨xi, xs, xu⟩ a' W ⟨hG, hKb⟩ hV ⟨F, hF4, rfl, hF⟩
    have hm := pre_mem hV
    have hpl := pre_len hV
    have hx1 := HO.out.id _ hm
    have hx2 := HO.out.st _ hm
    have hn1 := HO.out.n1
    have ha1 := HO.out.a1
    have HFo : Hid (∀ i, w4.heap.size ≤ i → ¬ p.own i) := fun i hi e => by have := HBB.out i e; have := HZZ.out; omega
    have H5 : Hid (∀ W, GoQ w0 W w4 S p w4.heap.size (w2.heap.size + 1) → Calls Tryz.prog 6 #[.pointer (some ⟨b, 0, none⟩), .agg #[.int .i64 5, .int .u32 tag, .int .u32 (xi : Int), .int .i64 0, .int .i64 0]] W fun e w' => e = .returned (.tuple #[.agg #[Value.int .u32 tag, .int .i64 5, .int .i64 0, .int .u32 0, .int .i64 (xs : Int), .int .i64 xu, .int .i64 0], .int .i64 0]) ∧ GoQ w0 w' w4 S p w4.heap.size (w2.heap.size + 1) ∧ Kept W w' p.own ∧ KeepsFrom w4.heap.size W w') := fun W h => by
      have := HA.out W ⟨5, tag, (xi : Int), 0, 0⟩ (q_ok ⟨⟨by omega, by omega⟩, Htag.out, ⟨by omega, by simp only at hx1; omega⟩, ⟨by omega, by omega⟩, ⟨by omega, by omega⟩⟩) h
      rw [ans_id HO.out tag hm] at this
      exact this
    have H6 : Hid (∀ W, GoQ w0 W w4 S p w4.heap.size (w2.heap.size + 1) → Calls Tryz.prog 6 #[.pointer (some ⟨b, 0, none⟩), .agg #[.int .i64 6, .int .u32 tag, .int .u32 0, .int .i64 (xs : Int), .int .i64 0]] W fun e w' => e = .returned (.tuple #[.agg #[Value.int .u32 tag, .int .i64 6, .int .i64 0, .int .u32 (xi : Int), .int .i64 0, .int .i64 xu, .int .i64 0], .int .i64 0]) ∧ GoQ w0 w' w4 S p w4.heap.size (w2.heap.size + 1) ∧ Kept W w' p.own ∧ KeepsFrom w4.heap.size W w') := fun W h => by
      have := HA.out W ⟨6, tag, 0, (xs : Int), 0⟩ (q_ok ⟨⟨by omega, by omega⟩, Htag.out, ⟨by omega, by omega⟩, ⟨by omega, by simp only at hx2; omega⟩, ⟨by omega, by omega⟩⟩) h
      rw [ans_st HO.out tag hm] at this
      exact this
    obtain ⟨NM, hNM⟩ : ∃ NM : Int, NM = ((pre.length + 1 : Nat) : Int) := ⟨_, rfl⟩
    have hL := HO.out.few
    have hLb := HO.out.b1
    have hwr : IntKind.i64.wrap ((pre.length : Int) + 1) = NM := by rw [IntKind.wrap_i64]; omega
    have hln : Hid ((pre ++ [(⟨xi, xs, xu⟩ : Bg)]).length = pre.length + 1) := by unfold Hid; simp
    have HNM := hide hNM
    have c3 := C3.out W hG
    have c1 := C1.out W hG.gr
    obtain ⟨f0, f1, f2, -⟩ := box3 hF
    have HG := hide hG
    have HKb := hide hKb
    have HF := hide hF
    have HF4 := hide hF4
    have H5' := hide (H5.out W hG)
    clear hm hpl hx1 hx2 hn1 ha1 hNM hL hLb hG hKb hF hF4 hV H5
    gi_wp2
    refine ⟨trivial, ?_⟩
    refine (CallsIn.inRound lp (callsIn_wide.2 H5'.out)).mono ?_
    rintro e w5 ⟨rfl, hG5, hk5, hf5⟩
    have hB5 : w5.heap.size ≤ w5.heap.size := Nat.le_refl _
    have hF5 := hk5.at HF.out (HFo.out _ HF4.out)
    have hb5 := box_kept HKb.out hk5 HNN.out.2
    have g6 := grown_alloc w5 (.cells [Value.int .u32 tag, .int .i64 5, .int .i64 0, .int .u32 0, .int .i64 (xs : Int), .int .i64 xu, .int .i64 0].toArray 38)
    have hy6 := heap_alloc_new w5 (.cells [Value.int .u32 tag, .int .i64 5, .int .i64 0, .int .u32 0, .int .i64 (xs : Int), .int .i64 xu, .int .i64 0].toArray 38)
    have hG6 := hG5.then g6
    have hF6 := box_to hF5 g6
    have hb6 : Boxed _ (w2.heap.size + 1) 3 (.int .i64 (pre.length : Int)) := box_to hb5 g6
    have c3 := C3.out _ hG6
    have c1 := C1.out _ hG6.gr
    obtain ⟨f0, f1, f2, -⟩ := box3 hF6
    have H6' := hide (H6.out _ hG6)
    have HY0 : Hid (w4.heap.size ≤ w5.heap.size) := hG5.sz
    have HY6 := hide hy6
    have HF6 := hide hF6
    have HB6 := hide hb6
    have HK5 := hide (And.intro hk5 (And.intro hf5 g6))
    clear hG5 hk5 hf5 g6 hy6 hG6 hF6 hb6 hF5 hb5 H5' H6 HG HKb HF hB5
    gi_wp2_with fail
    generalize hw6 : World.alloc w5 _ = w6 at *
    clear hw6
    generalize w5.heap.size = Y5 at *
    gi_wp2
    refine ⟨trivial, ?_⟩
    refine (CallsIn.inRound lp (callsIn_wide.2 H6'.out)).mono ?_
    rintro e w7 ⟨rfl, hG7, hk7, hf7⟩
    have hF7 := hk7.at HF6.out (HFo.out _ HF4.out)
    have hb7 := box_kept HB6.out hk7 HNN.out.2
    have hy7 := hk7.at HY6.out (HFo.out _ HY0.out)
    have g8 := grown_alloc w7 (.cells [Value.int .u32 tag, .int .i64 6, .int .i64 0, .int .u32 (xi : Int), .int .i64 0, .int .i64 xu, .int .i64 0].toArray 38)
    have hy8 := heap_alloc_new w7 (.cells [Value.int .u32 tag, .int .i64 6, .int .i64 0, .int .u32 (xi : Int), .int .i64 0, .int .i64 xu, .int .i64 0].toArray 38)
    have hG8 := hG7.then g8
    have c1 := C1.out _ hG8.gr
    obtain ⟨f0, f1, f2, -⟩ := box3 (box_to hF7 g8)
    obtain ⟨a0, a1, a2, a3, a4, a5, a6⟩ := bx7 (box_to hy7 g8)
    obtain ⟨b0, b1, b2, b3, b4, b5, b6⟩ := bx7 hy8
    have hb8 : Boxed _ (w2.heap.size + 1) 3 (.int .i64 (pre.length : Int)) := box_to hb7 g8
    have c12 := hb8.cell
    have c12f := hb8.frozen
    have HE : Hid (∀ a', ownPostG w4.heap.size (KpB (vbk B so S.L.length)) (fun pre W => GoQ w0 W w4 S p w4.heap.size (w2.heap.size + 1) ∧ Boxed W (w2.heap.size + 1) 3 (.int .i64 (pre.length : Int))) (fun c pre W => False) (pre ++ [⟨xi, xs, xu⟩]) W .normal a' ((w7.alloc (.cells [Value.int .u32 tag, .int .i64 6, .int .i64 0, .int .u32 (xi : Int), .int .i64 0, .int .i64 xu, .int .i64 0].toArray 38)).setCell ⟨w2.heap.size + 1, 0, none⟩ (.int .i64 NM))) := fun a' => by
      have hz := HZZ.out
      have ks := kept_setCell (w7.alloc (.cells [Value.int .u32 tag, .int .i64 6, .int .i64 0, .int .u32 (xi : Int), .int .i64 0, .int .i64 xu, .int .i64 0].toArray 38)) (w2.heap.size + 1) 0 (.int .i64 NM)
      refine ⟨keepsF_then (keepsF_then (keepsF_then (keepsF_then HK5.out.2.1 (keeps_new HK5.out.2.2)) hf7) (keeps_new g8)) ⟨ks.size, fun k o hk ho hc => ks.at ho (fun e => by have e2 : k = w2.heap.size + 1 := e; omega)⟩, (((KpB.of HK5.out.1 (fun i hv e => HNo.out i e hv)).trans (KpB.new HK5.out.2.2)).trans (KpB.of hk7 (fun i hv e => HNo.out i e hv))).trans ((KpB.new g8).trans (KpB.of ks (fun i hv e => by have e2 : i = w2.heap.size + 1 := e; have := (HQ.out i hv).1; omega))), hG8.put (by omega) HNN.out.2 _, ?_⟩
      have := hb8.set (.int .i64 NM)
      rw [hln.out, ← HNM.out]
      exact this
    clear hG7 hk7 hf7 hF7 hb7 hy7 g8 hy8 hG8 hb8 H6' HY6 HF6 HB6 HK5 c3
    gi_wp2
    exact HE.out _
  case stop => exact fun D c pre W hD h => h.elim
  case done =>
    rintro D ys W hD rfl ⟨hG, hKb⟩ hDf
    have G9 := hide (And.intro hG (And.intro hKb hDf))
    have HD := hide hD
    clear hG hKb hDf hD
    go_wp2
    go_loopg [14, 15, 16] 40 (fun kk q14 q15 q16 wr => ∃ j : Nat, kk + j = 40 ∧ q14 = .int .i64 (cF (fun i => (fnd S.L i).isSome) j : Nat) ∧ q15 = .int .i64 (cF (fun i => (sat S.L i).isSome) j : Nat) ∧ q16 = .int .i64 (j : Int) ∧ Hid (GoQ w0 wr w4 S p w4.heap.size (w2.heap.size + 1) ∧ Boxed wr (w2.heap.size + 1) 3 (.int .i64 (S.L.length : Int)) ∧ wr.heap[D]? = some (.deferred (some []))))
    case atStart => exact ⟨0, by omega, rfl, rfl, rfl, G9.out⟩
    case round =>
      obtain ⟨j, hkj, rfl, rfl, rfl, hS⟩ := hrel
      by_cases hk : 0 < gk
      · have hj : j < 40 := by omega
        have hlt : (j : Int) < 40 := by omega
        obtain ⟨kn, hkn⟩ : ∃ kn, kn = ((j + 1 : Nat) : Int) := ⟨_, rfl⟩
        have hnx : IntKind.i64.wrap ((j : Int) + 1) = kn := by rw [IntKind.wrap_i64]; omega
        have hcv : IntKind.u32.wrap (j : Int) = (j : Int) := by rw [IntKind.wrap_u32]; omega
        have f5 := ans_five (S := S) tag j (by omega)
        have f6 := ans_six (S := S) tag j (by omega)
        have hnum := at_num S j
        have hc1 := cF_le (fun i => (fnd S.L i).isSome) j
        have hc2 := cF_le (fun i => (sat S.L i).isSome) j
        have e1 : cF (fun i => (fnd S.L i).isSome) (j + 1) = cF (fun i => (fnd S.L i).isSome) j + (if (fnd S.L j).isSome then 1 else 0) := rfl
        have e2 : cF (fun i => (sat S.L i).isSome) (j + 1) = cF (fun i => (sat S.L i).isSome) j + (if (sat S.L j).isSome then 1 else 0) := rfl
        have H5 : Hid (∀ W, GoQ w0 W w4 S p w4.heap.size (w2.heap.size + 1) → Calls Tryz.prog 6 #[.pointer (some ⟨b, 0, none⟩), .agg #[.int .i64 5, .int .u32 tag, .int .u32 (j : Int), .int .i64 0, .int .i64 0]] W fun e w' => e = .returned (anV (ans S ⟨5, tag, (j : Int), 0, 0⟩)) ∧ GoQ w0 w' w4 S p w4.heap.size (w2.heap.size + 1) ∧ Kept W w' p.own ∧ KeepsFrom w4.heap.size W w') := fun W h => HA.out W ⟨5, tag, (j : Int), 0, 0⟩ (q_ok ⟨⟨by omega, by omega⟩, Htag.out, ⟨by omega, by omega⟩, ⟨by omega, by omega⟩, ⟨by omega, by omega⟩⟩) h
        have H6 : Hid (∀ W, GoQ w0 W w4 S p w4.heap.size (w2.heap.size + 1) → Calls Tryz.prog 6 #[.pointer (some ⟨b, 0, none⟩), .agg #[.int .i64 6, .int .u32 tag, .int .u32 0, .int .i64 (j : Int), .int .i64 0]] W fun e w' => e = .returned (anV (ans S ⟨6, tag, 0, (j : Int), 0⟩)) ∧ GoQ w0 w' w4 S p w4.heap.size (w2.heap.size + 1) ∧ Kept W w' p.own ∧ KeepsFrom w4.heap.size W w') := fun W h => HA.out W ⟨6, tag, 0, (j : Int), 0⟩ (q_ok ⟨⟨by omega, by omega⟩, Htag.out, ⟨by omega, by omega⟩, ⟨by omega, by omega⟩, ⟨by omega, by omega⟩⟩) h
        rw [f5] at H5
        rw [f6] at H6
        unfold anV Rt.ryV at H5 H6
        simp only at H5 H6
        obtain ⟨n1, hn1⟩ : ∃ n1, n1 = cF (fun i => (fnd S.L i).isSome) (j + 1) := ⟨_, rfl⟩
        obtain ⟨n2, hn2⟩ : ∃ n2, n2 = cF (fun i => (sat S.L i).isSome) (j + 1) := ⟨_, rfl⟩
        rw [← hn1] at e1
        rw [← hn2] at e2
        have HN1 := hide hn1
        have HN2 := hide hn2
        clear hn1 hn2
        generalize cF (fun i => (fnd S.L i).isSome) j = m1 at *
        generalize cF (fun i => (sat S.L i).isSome) j = m2 at *
        have HFd : Hid (((fnd S.L j).isSome = true) ∨ ((fnd S.L j).isSome = false ∧ (fnd S.L j).getD ⟨0, 0, 0⟩ = ⟨0, 0, 0⟩)) := by
          unfold Hid
          cases fnd S.L j with
          | some x => exact Or.inl rfl
          | none => exact Or.inr ⟨rfl, rfl⟩
        have HSt : Hid (¬ j < S.a → (sat S.L j).isSome = false) := fun h => by
          have : sat S.L j = none := sat_none.2 (fun y hy e => by have := HO.out.st y hy; omega)
          rw [this]; rfl
        generalize (fnd S.L j).getD ⟨0, 0, 0⟩ = X5 at *
        generalize (fnd S.L j).isSome = B5 at *
        generalize atX S (j : Int) = X6 at *
        generalize atE S (j : Int) = E6 at *
        generalize (sat S.L j).isSome = B6 at *
        generalize hE5 : (if B5 = true then (0 : Int) else 171) = E5 at *
        have HE5 := hide hE5
        clear hE5
        obtain ⟨i5, s5, u5⟩ := X5
        obtain ⟨i6, s6, u6⟩ := X6
        simp only at H5 H6
        have HN := hide hkn
        have HK := hide (And.intro hk hkj)
        have HC := hide (And.intro hc1 (And.intro hc2 (And.intro e1 (And.intro e2 hj))))
        have HNu := hide hnum
        have HJ0 : Hid (S.a = S.a) := rfl
        clear hkn hk hkj hc1 hc2 e1 e2 f5 f6 hnum hj
        have c3 := C3.out wr hS.out.1
        have c1 := C1.out wr hS.out.1.gr
        have H5' := hide (H5.out wr hS.out.1)
        clear H5
        go_wp2_with fail
        refine H5'.out.mono ?_
        rintro e w5 ⟨rfl, hG5, hk5, hf5⟩
        have S5 : Hid (GoQ w0 w5 w4 S p w4.heap.size (w2.heap.size + 1) ∧ Boxed w5 (w2.heap.size + 1) 3 (.int .i64 (S.L.length : Int)) ∧ w5.heap[D]? = some (.deferred (some []))) := ⟨hG5, box_kept hS.out.2.1 hk5 HNN.out.2, hf5.same _ _ HD.out hS.out.2.2 rfl⟩
        clear hG5 hk5 hf5 hS H5' c1 c3
        go_upto_region 17 with fail
        have g6 := grown_alloc w5 (.cells [Value.int .u32 tag, .int .i64 5, .int .i64 E5, .int .u32 0, .int .i64 (s5 : Int), .int .i64 u5, .int .i64 0].toArray 38)
        have S6 : Hid (GoQ w0 (w5.alloc (.cells [Value.int .u32 tag, .int .i64 5, .int .i64 E5, .int .u32 0, .int .i64 (s5 : Int), .int .i64 u5, .int .i64 0].toArray 38)) w4 S p w4.heap.size (w2.heap.size + 1) ∧ Boxed (w5.alloc (.cells [Value.int .u32 tag, .int .i64 5, .int .i64 E5, .int .u32 0, .int .i64 (s5 : Int), .int .i64 u5, .int .i64 0].toArray 38)) (w2.heap.size + 1) 3 (.int .i64 (S.L.length : Int)) ∧ (w5.alloc (.cells [Value.int .u32 tag, .int .i64 5, .int .i64 E5, .int .u32 0, .int .i64 (s5 : Int), .int .i64 u5, .int .i64 0].toArray 38)).heap[D]? = some (.deferred (some [])) ∧ (w5.alloc (.cells [Value.int .u32 tag, .int .i64 5, .int .i64 E5, .int .u32 0, .int .i64 (s5 : Int), .int .i64 u5, .int .i64 0].toArray 38)).heap[w5.heap.size]? = some (.cells [Value.int .u32 tag, .int .i64 5, .int .i64 E5, .int .u32 0, .int .i64 (s5 : Int), .int .i64 u5, .int .i64 0].toArray 38 (0, 0)) ∧ w4.heap.size ≤ w5.heap.size) := ⟨S5.out.1.then g6, box_to S5.out.2.1 g6, box_to S5.out.2.2 g6, heap_alloc_new w5 _, S5.out.1.sz⟩
        clear g6 S5
        generalize World.alloc w5 _ = w6 at *
        generalize w5.heap.size = Y5 at *
        have c3 := C3.out w6 S6.out.1
        have c1 := C1.out w6 S6.out.1.gr
        have H6' := hide (H6.out w6 S6.out.1)
        clear H6
        go_wp2_with fail
        refine H6'.out.mono ?_
        rintro e w7 ⟨rfl, hG7, hk7, hf7⟩
        have hno : ∀ i, w4.heap.size ≤ i → ¬ p.own i := fun i hi e => by have := HBB.out i e; have := HZZ.out; omega
        have S7 : Hid (GoQ w0 w7 w4 S p w4.heap.size (w2.heap.size + 1) ∧ Boxed w7 (w2.heap.size + 1) 3 (.int .i64 (S.L.length : Int)) ∧ w7.heap[D]? = some (.deferred (some [])) ∧ w7.heap[Y5]? = some (.cells [Value.int .u32 tag, .int .i64 5, .int .i64 E5, .int .u32 0, .int .i64 (s5 : Int), .int .i64 u5, .int .i64 0].toArray 38 (0, 0))) := ⟨hG7, box_kept S6.out.2.1 hk7 HNN.out.2, hf7.same _ _ HD.out S6.out.2.2.1 rfl, hk7.at S6.out.2.2.2.1 (hno _ S6.out.2.2.2.2)⟩
        clear hG7 hk7 hf7 S6 H6' c1 c3 hno
        go_upto_region 18 with fail
        have g8 := grown_alloc w7 (.cells [Value.int .u32 tag, .int .i64 6, .int .i64 E6, .int .u32 (i6 : Int), .int .i64 0, .int .i64 u6, .int .i64 0].toArray 38)
        have S8 : Hid (GoQ w0 (w7.alloc (.cells [Value.int .u32 tag, .int .i64 6, .int .i64 E6, .int .u32 (i6 : Int), .int .i64 0, .int .i64 u6, .int .i64 0].toArray 38)) w4 S p w4.heap.size (w2.heap.size + 1) ∧ Boxed (w7.alloc (.cells [Value.int .u32 tag, .int .i64 6, .int .i64 E6, .int .u32 (i6 : Int), .int .i64 0, .int .i64 u6, .int .i64 0].toArray 38)) (w2.heap.size + 1) 3 (.int .i64 (S.L.length : Int)) ∧ (w7.alloc (.cells [Value.int .u32 tag, .int .i64 6, .int .i64 E6, .int .u32 (i6 : Int), .int .i64 0, .int .i64 u6, .int .i64 0].toArray 38)).heap[D]? = some (.deferred (some [])) ∧ (w7.alloc (.cells [Value.int .u32 tag, .int .i64 6, .int .i64 E6, .int .u32 (i6 : Int), .int .i64 0, .int .i64 u6, .int .i64 0].toArray 38)).heap[Y5]? = some (.cells [Value.int .u32 tag, .int .i64 5, .int .i64 E5, .int .u32 0, .int .i64 (s5 : Int), .int .i64 u5, .int .i64 0].toArray 38 (0, 0)) ∧ (w7.alloc (.cells [Value.int .u32 tag, .int .i64 6, .int .i64 E6, .int .u32 (i6 : Int), .int .i64 0, .int .i64 u6, .int .i64 0].toArray 38)).heap[w7.heap.size]? = some (.cells [Value.int .u32 tag, .int .i64 6, .int .i64 E6, .int .u32 (i6 : Int), .int .i64 0, .int .i64 u6, .int .i64 0].toArray 38 (0, 0))) := ⟨S7.out.1.then g8, box_to S7.out.2.1 g8, box_to S7.out.2.2.1 g8, box_to S7.out.2.2.2 g8, heap_alloc_new w7 _⟩
        clear g8 S7
        generalize World.alloc w7 _ = w8 at *
        generalize w7.heap.size = Y7 at *
        have c3 := C3.out w8 S8.out.1
        have c1 := C1.out w8 S8.out.1.gr
        have HSh : Hid (∀ W, GoQ w0 W w4 S p w4.heap.size (w2.heap.size + 1) → Calls Tryz.prog 7 #[.pointer (some ⟨b, 0, none⟩)] W fun e w' => e = .returned (limV S.a S.b S.c) ∧ W.grownBy w' none) := fun W h => by
          have := shape_any h.bk
          rw [EB.out] at this
          exact this
        unfold limV at HSh
        have hfd := fieldA (S.a : Int) (S.b : Int) (S.c : Int)
        rcases HFd.out with rfl | ⟨rfl, hX5⟩
        · have hw1 : IntKind.i64.wrap ((m1 : Int) + 1) = ((n1 : Nat) : Int) := by have := HC.out; rw [if_pos rfl] at this; rw [IntKind.wrap_i64]; omega
          have hE5 := HE5.out
          rw [if_pos rfl] at hE5
          subst hE5
          obtain ⟨y0, y1, y2, y3, y4, y5, y6⟩ := bx7 S8.out.2.2.2.1
          rcases HNu.out with ⟨hja, rfl, rfl⟩ | ⟨hja, rfl, rfl, hX6⟩ | ⟨hja, rfl, hX6⟩
          · have hw2 : IntKind.i64.wrap ((m2 : Int) + 1) = ((n2 : Nat) : Int) := by have := HC.out; rw [if_pos rfl] at this; rw [IntKind.wrap_i64]; omega
            obtain ⟨z0, z1, z2, z3, z4, z5, z6⟩ := bx7 S8.out.2.2.2.2
            go_wp2
            go_roundg (gk - 1)
            case measure => have := HK.out; omega
            case rel => exact ⟨j + 1, by have := HK.out; omega, by rw [← HN1.out], by rw [← HN2.out], by rw [HN.out], ⟨S8.out.1, S8.out.2.1, S8.out.2.2.1⟩⟩
          · cases hX6
            have H2 : Hid (n2 = m2) := by have := HC.out.2.2.2.1; rw [if_neg (by decide)] at this; exact this
            have hd1 : decide ((j : Int) ≥ (S.a : Int)) = false := decide_eq_false (by omega)
            have hja2 : (j : Int) < (S.a : Int) := by omega
            clear hja
            obtain ⟨z0, z1, z2, z3, z4, z5, z6⟩ := bx7 S8.out.2.2.2.2
            go_wp2
            refine wp_region_noPanic ?_
            refine wp_region_held_drew (S := (fun W => (W.cell? ⟨Y7, 0, none⟩ = some (.int .u32 tag) ∧ W.cell? ⟨Y7, 1, none⟩ = some (.int .i64 6) ∧ W.cell? ⟨Y7, 2, none⟩ = some (.int .i64 171) ∧ W.cell? ⟨Y7, 3, none⟩ = some (.int .u32 ((0 : Nat) : Int)) ∧ W.cell? ⟨Y7, 4, none⟩ = some (.int .i64 0) ∧ W.cell? ⟨Y7, 5, none⟩ = some (.int .i64 0) ∧ W.cell? ⟨Y7, 6, none⟩ = some (.int .i64 0)) ∧ W.cell? ⟨w2.heap.size, 0, none⟩ = some (.pointer (some ⟨b, 0, none⟩)))) (by kernel_rfl) ?_ (fun hHeld => ?_)
            · (exact ⟨bx7 (box_to S8.out.2.2.2.2 (grown_drew w8 none)), C3.out _ (S8.out.1.then (grown_drew w8 none))⟩)
            refine tkH (i := 0) (oi := { dst := some 115, op := Go.Op.fieldAddr 38 (Go.Operand.tmp 19) 2, type := 0, pos := "outright.go:123", after := #[], guard := none }) (v := ?_) rfl ?_ ?_
            rotate_left
            · (intro w hSw; (try dsimp only at hSw); (go_simp <;> with_reducible rfl))
            try simp only [Act.put, List.setIfInBounds_toArray, List.set_cons_zero, List.set_cons_succ]
            refine tkH (i := 1) (oi := { dst := some 116, op := Go.Op.load 36 (Go.Operand.tmp 115), type := 36, pos := "outright.go:123", after := #[{ on := 0, ground := Go.Ground.data }], guard := none }) (v := ?_) rfl ?_ ?_
            rotate_left
            · (intro w hSw; (try dsimp only at hSw); (go_simp <;> with_reducible rfl))
            try simp only [Act.put, List.setIfInBounds_toArray, List.set_cons_zero, List.set_cons_succ]
            refine tkH (i := 2) (oi := { dst := some 117, op := Go.Op.binOp Go.BinOp.eql 36 (Go.Operand.tmp 116) (Go.Operand.const (Go.Value.int Go.IntKind.i64 140)) 36, type := 4, pos := "outright.go:123", after := #[{ on := 1, ground := Go.Ground.data }], guard := none }) (v := ?_) rfl ?_ ?_
            rotate_left
            · (intro w hSw; (try dsimp only at hSw); (go_simp <;> with_reducible rfl))
            try simp only [Act.put, List.setIfInBounds_toArray, List.set_cons_zero, List.set_cons_succ]
            refine tkH (i := 3) (oi := { dst := some 118, op := Go.Op.move (Go.Operand.tmp 16), type := 3, pos := "outright.go:123", after := #[], guard := none }) (v := ?_) rfl ?_ ?_
            rotate_left
            · (intro w hSw; (try dsimp only at hSw); (go_simp <;> with_reducible rfl))
            try simp only [Act.put, List.setIfInBounds_toArray, List.set_cons_zero, List.set_cons_succ]
            refine tkH (i := 4) (oi := { dst := some 119, op := Go.Op.load 26 (Go.Operand.tmp 5), type := 26, pos := "outright.go:123", after := #[], guard := none }) (v := ?_) rfl ?_ ?_
            rotate_left
            · (intro w hSw; (try dsimp only at hSw); (go_simp <;> with_reducible rfl))
            try simp only [Act.put, List.setIfInBounds_toArray, List.set_cons_zero, List.set_cons_succ]
            refine rdH (i := 5) (o := { dst := some 120, op := Go.Op.call { callee := Go.Callee.value (Go.Operand.func 7), args := #[Go.Operand.tmp 119], argTypes := #[26] }, type := 44, pos := "outright.go:123", after := #[{ on := 4, ground := Go.Ground.data }], guard := none }) rfl (fun K hK => ?_)
            go_simp
            refine (HSh.out _ (S8.out.1.then (grown_drew w8 none))).mono ?_; rintro e w9 ⟨rfl, hg⟩; have S9 : Hid (GoQ w0 w9 w4 S p w4.heap.size (w2.heap.size + 1) ∧ Boxed w9 (w2.heap.size + 1) 3 (.int .i64 (S.L.length : Int)) ∧ w9.heap[D]? = some (.deferred (some []))) := ⟨S8.out.1.then (grown_trans (grown_drew w8 none) hg), box_to S8.out.2.1 (grown_trans (grown_drew w8 none) hg), box_to S8.out.2.2.1 (grown_trans (grown_drew w8 none) hg)⟩; have hJ9 := And.intro (bx7 (box_to S8.out.2.2.2.2 (grown_trans (grown_drew w8 none) hg))) (C3.out _ S9.out.1); clear hg
            go_wp2_with fail
            refine hK.out _ _ ?_ (fun hHeld => ?_)
            · ((try dsimp only); assumption)
            clear hK K
            try simp only [Act.put, List.setIfInBounds_toArray, List.set_cons_zero, List.set_cons_succ]
            refine tkH (i := 6) (oi := { dst := some 121, op := Go.Op.field 44 (Go.Operand.tmp 120) 0, type := 3, pos := "outright.go:123", after := #[{ on := 5, ground := Go.Ground.data }], guard := none }) (v := ?_) rfl ?_ ?_
            rotate_left
            · (intro w hSw; refine field_0 (x := .tmp 120) (p := (S.a : Int)) (q := (S.b : Int)) (r := (S.c : Int)) ?_ ?_ w <;> rfl)
            try simp only [Act.put, List.setIfInBounds_toArray, List.set_cons_zero, List.set_cons_succ]
            refine tkH (i := 7) (oi := { dst := some 122, op := Go.Op.binOp Go.BinOp.geq 3 (Go.Operand.tmp 118) (Go.Operand.tmp 121) 3, type := 4, pos := "outright.go:123", after := #[{ on := 3, ground := Go.Ground.data }, { on := 6, ground := Go.Ground.data }], guard := none }) (v := ?_) rfl ?_ ?_
            rotate_left
            · (intro w hSw; refine geq_f (t := 3) (k := .i64) (x := .tmp 118) (y := .tmp 121) (p := (j : Int)) (q := (S.a : Int)) ?_ ?_ ?_ hja2 w <;> rfl)
            try simp only [Act.put, List.setIfInBounds_toArray, List.set_cons_zero, List.set_cons_succ]
            refine tkH (i := 8) (oi := { dst := some 123, op := Go.Op.binOp Go.BinOp.neq 4 (Go.Operand.tmp 117) (Go.Operand.tmp 122) 4, type := 4, pos := "outright.go:123", after := #[{ on := 2, ground := Go.Ground.data }, { on := 7, ground := Go.Ground.data }], guard := none }) (v := ?_) rfl ?_ ?_
            rotate_left
            · (intro w hSw; (try dsimp only at hSw); (go_simp <;> with_reducible rfl))
            try simp only [Act.put, List.setIfInBounds_toArray, List.set_cons_zero, List.set_cons_succ]
            refine tkH (i := 9) (oi := { dst := some 124, op := Go.Op.move (Go.Operand.tmp 123), type := 4, pos := "outright.go:123", after := #[{ on := 8, ground := Go.Ground.data }, { on := 5, ground := Go.Ground.chain }], guard := none }) (v := ?_) rfl ?_ ?_
            rotate_left
            · (intro w hSw; (try dsimp only at hSw); (go_simp <;> with_reducible rfl))
            try simp only [Act.put, List.setIfInBounds_toArray, List.set_cons_zero, List.set_cons_succ]
            refine tkH (i := 10) (oi := { dst := some 125, op := Go.Op.fieldAddr 38 (Go.Operand.tmp 19) 2, type := 0, pos := "outright.go:123", after := #[{ on := 9, ground := Go.Ground.guard }], guard := some (9, false) }) (v := ?_) rfl ?_ ?_
            rotate_left
            · (intro w hSw; (try dsimp only at hSw); (go_simp <;> with_reducible rfl))
            try simp only [Act.put, List.setIfInBounds_toArray, List.set_cons_zero, List.set_cons_succ]
            refine tkH (i := 11) (oi := { dst := some 126, op := Go.Op.load 36 (Go.Operand.tmp 125), type := 36, pos := "outright.go:123", after := #[{ on := 10, ground := Go.Ground.data }, { on := 9, ground := Go.Ground.guard }], guard := some (9, false) }) (v := ?_) rfl ?_ ?_
            rotate_left
            · (intro w hSw; (try dsimp only at hSw); (go_simp <;> with_reducible rfl))
            try simp only [Act.put, List.setIfInBounds_toArray, List.set_cons_zero, List.set_cons_succ]
            refine tkH (i := 12) (oi := { dst := some 127, op := Go.Op.binOp Go.BinOp.neq 36 (Go.Operand.tmp 126) (Go.Operand.const (Go.Value.int Go.IntKind.i64 140)) 36, type := 4, pos := "outright.go:123", after := #[{ on := 11, ground := Go.Ground.data }, { on := 9, ground := Go.Ground.guard }], guard := some (9, false) }) (v := ?_) rfl ?_ ?_
            rotate_left
            · (intro w hSw; (try dsimp only at hSw); (go_simp <;> with_reducible rfl))
            try simp only [Act.put, List.setIfInBounds_toArray, List.set_cons_zero, List.set_cons_succ]
            refine tkH (i := 13) (oi := { dst := some 128, op := Go.Op.move (Go.Operand.tmp 127), type := 4, pos := "outright.go:123", after := #[{ on := 12, ground := Go.Ground.data }, { on := 9, ground := Go.Ground.chain }, { on := 9, ground := Go.Ground.guard }], guard := some (9, false) }) (v := ?_) rfl ?_ ?_
            rotate_left
            · (intro w hSw; (try dsimp only at hSw); (go_simp <;> with_reducible rfl))
            try simp only [Act.put, List.setIfInBounds_toArray, List.set_cons_zero, List.set_cons_succ]
            refine tkH (i := 14) (oi := { dst := some 129, op := Go.Op.fieldAddr 38 (Go.Operand.tmp 19) 2, type := 0, pos := "outright.go:123", after := #[{ on := 13, ground := Go.Ground.guard }], guard := some (13, true) }) (v := ?_) rfl ?_ ?_
            rotate_left
            · (intro w hSw; (try dsimp only at hSw); (go_simp <;> with_reducible rfl))
            try simp only [Act.put, List.setIfInBounds_toArray, List.set_cons_zero, List.set_cons_succ]
            refine tkH (i := 15) (oi := { dst := some 130, op := Go.Op.load 36 (Go.Operand.tmp 129), type := 36, pos := "outright.go:123", after := #[{ on := 14, ground := Go.Ground.data }, { on := 13, ground := Go.Ground.guard }], guard := some (13, true) }) (v := ?_) rfl ?_ ?_
            rotate_left
            · (intro w hSw; (try dsimp only at hSw); (go_simp <;> with_reducible rfl))
            try simp only [Act.put, List.setIfInBounds_toArray, List.set_cons_zero, List.set_cons_succ]
            refine tkH (i := 16) (oi := { dst := some 131, op := Go.Op.binOp Go.BinOp.neq 36 (Go.Operand.tmp 130) (Go.Operand.const (Go.Value.int Go.IntKind.i64 171)) 36, type := 4, pos := "outright.go:123", after := #[{ on := 15, ground := Go.Ground.data }, { on := 13, ground := Go.Ground.guard }], guard := some (13, true) }) (v := ?_) rfl ?_ ?_
            rotate_left
            · (intro w hSw; (try dsimp only at hSw); (go_simp <;> with_reducible rfl))
            try simp only [Act.put, List.setIfInBounds_toArray, List.set_cons_zero, List.set_cons_succ]
            refine tkH (i := 17) (oi := { dst := some 132, op := Go.Op.pick (Go.Operand.tmp 128) (Go.Operand.tmp 131) (Go.Operand.const (Go.Value.bool false)), type := 4, pos := "outright.go:123", after := #[{ on := 13, ground := Go.Ground.data }, { on := 16, ground := Go.Ground.data }, { on := 9, ground := Go.Ground.guard }], guard := some (9, false) }) (v := ?_) rfl ?_ ?_
            rotate_left
            · (intro w hSw; (try dsimp only at hSw); (go_simp <;> with_reducible rfl))
            try simp only [Act.put, List.setIfInBounds_toArray, List.set_cons_zero, List.set_cons_succ]
            refine tkH (i := 18) (oi := { dst := some 133, op := Go.Op.pick (Go.Operand.tmp 124) (Go.Operand.const (Go.Value.bool true)) (Go.Operand.tmp 132), type := 4, pos := "outright.go:123", after := #[{ on := 9, ground := Go.Ground.data }, { on := 17, ground := Go.Ground.data }], guard := none }) (v := ?_) rfl ?_ ?_
            rotate_left
            · (intro w hSw; (try dsimp only at hSw); (go_simp <;> with_reducible rfl))
            try simp only [Act.put, List.setIfInBounds_toArray, List.set_cons_zero, List.set_cons_succ]
            refine tkH (i := 19) (oi := { dst := some 134, op := Go.Op.move (Go.Operand.tmp 133), type := 4, pos := "outright.go:123", after := #[{ on := 18, ground := Go.Ground.data }, { on := 13, ground := Go.Ground.chain }], guard := none }) (v := ?_) rfl ?_ ?_
            rotate_left
            · (intro w hSw; (try dsimp only at hSw); (go_simp <;> with_reducible rfl))
            try simp only [Act.put, List.setIfInBounds_toArray, List.set_cons_zero, List.set_cons_succ]
            refine tkH (i := 20) (oi := { dst := some 135, op := Go.Op.fieldAddr 38 (Go.Operand.tmp 19) 3, type := 0, pos := "outright.go:123", after := #[{ on := 19, ground := Go.Ground.guard }], guard := some (19, false) }) (v := ?_) rfl ?_ ?_
            rotate_left
            · (intro w hSw; (try dsimp only at hSw); (go_simp <;> with_reducible rfl))
            try simp only [Act.put, List.setIfInBounds_toArray, List.set_cons_zero, List.set_cons_succ]
            refine tkH (i := 21) (oi := { dst := some 136, op := Go.Op.load 23 (Go.Operand.tmp 135), type := 23, pos := "outright.go:123", after := #[{ on := 20, ground := Go.Ground.data }, { on := 19, ground := Go.Ground.guard }], guard := some (19, false) }) (v := ?_) rfl ?_ ?_
            rotate_left
            · (intro w hSw; (try dsimp only at hSw); (go_simp <;> with_reducible rfl))
            try simp only [Act.put, List.setIfInBounds_toArray, List.set_cons_zero, List.set_cons_succ]
            refine tkH (i := 22) (oi := { dst := some 137, op := Go.Op.binOp Go.BinOp.neq 23 (Go.Operand.tmp 136) (Go.Operand.const (Go.Value.int Go.IntKind.u32 0)) 23, type := 4, pos := "outright.go:123", after := #[{ on := 21, ground := Go.Ground.data }, { on := 19, ground := Go.Ground.guard }], guard := some (19, false) }) (v := ?_) rfl ?_ ?_
            rotate_left
            · (intro w hSw; (try dsimp only at hSw); (go_simp <;> with_reducible rfl))
            try simp only [Act.put, List.setIfInBounds_toArray, List.set_cons_zero, List.set_cons_succ]
            refine tkH (i := 23) (oi := { dst := some 138, op := Go.Op.pick (Go.Operand.tmp 134) (Go.Operand.const (Go.Value.bool true)) (Go.Operand.tmp 137), type := 4, pos := "outright.go:123", after := #[{ on := 19, ground := Go.Ground.data }, { on := 22, ground := Go.Ground.data }], guard := none }) (v := ?_) rfl ?_ ?_
            rotate_left
            · (intro w hSw; (try dsimp only at hSw); (go_simp <;> with_reducible rfl))
            try simp only [Act.put, List.setIfInBounds_toArray, List.set_cons_zero, List.set_cons_succ]
            refine tkH (i := 24) (oi := { dst := some 139, op := Go.Op.move (Go.Operand.tmp 138), type := 4, pos := "outright.go:123", after := #[{ on := 23, ground := Go.Ground.data }, { on := 19, ground := Go.Ground.chain }], guard := none }) (v := ?_) rfl ?_ ?_
            rotate_left
            · (intro w hSw; (try dsimp only at hSw); (go_simp <;> with_reducible rfl))
            try simp only [Act.put, List.setIfInBounds_toArray, List.set_cons_zero, List.set_cons_succ]
            refine tkH (i := 25) (oi := { dst := some 140, op := Go.Op.fieldAddr 38 (Go.Operand.tmp 19) 5, type := 0, pos := "outright.go:123", after := #[{ on := 24, ground := Go.Ground.guard }], guard := some (24, false) }) (v := ?_) rfl ?_ ?_
            rotate_left
            · (intro w hSw; (try dsimp only at hSw); (go_simp <;> with_reducible rfl))
            try simp only [Act.put, List.setIfInBounds_toArray, List.set_cons_zero, List.set_cons_succ]
            refine tkH (i := 26) (oi := { dst := some 141, op := Go.Op.load 2 (Go.Operand.tmp 140), type := 2, pos := "outright.go:123", after := #[{ on := 25, ground := Go.Ground.data }, { on := 24, ground := Go.Ground.guard }], guard := some (24, false) }) (v := ?_) rfl ?_ ?_
            rotate_left
            · (intro w hSw; (try dsimp only at hSw); (go_simp <;> with_reducible rfl))
            try simp only [Act.put, List.setIfInBounds_toArray, List.set_cons_zero, List.set_cons_succ]
            refine tkH (i := 27) (oi := { dst := some 142, op := Go.Op.binOp Go.BinOp.neq 2 (Go.Operand.tmp 141) (Go.Operand.const (Go.Value.int Go.IntKind.i64 0)) 2, type := 4, pos := "outright.go:123", after := #[{ on := 26, ground := Go.Ground.data }, { on := 24, ground := Go.Ground.guard }], guard := some (24, false) }) (v := ?_) rfl ?_ ?_
            rotate_left
            · (intro w hSw; (try dsimp only at hSw); (go_simp <;> with_reducible rfl))
            try simp only [Act.put, List.setIfInBounds_toArray, List.set_cons_zero, List.set_cons_succ]
            refine tkH (i := 28) (oi := { dst := some 143, op := Go.Op.pick (Go.Operand.tmp 139) (Go.Operand.const (Go.Value.bool true)) (Go.Operand.tmp 142), type := 4, pos := "outright.go:123", after := #[{ on := 24, ground := Go.Ground.data }, { on := 27, ground := Go.Ground.data }], guard := none }) (v := ?_) rfl ?_ ?_
            rotate_left
            · (intro w hSw; (try dsimp only at hSw); (go_simp <;> with_reducible rfl))
            try simp only [Act.put, List.setIfInBounds_toArray, List.set_cons_zero, List.set_cons_succ]
            refine wpAnyH_done (by kernel_rfl) ?_ _
            refine NoPanic.normal ?_
            go_wp2
            go_roundg (gk - 1)
            case measure => have := HK.out; omega
            case rel => exact ⟨j + 1, by have := HK.out; omega, by rw [← HN1.out], by rw [← HN2.out, H2.out], by rw [HN.out], S9.out⟩
          · cases hX6
            have hB6 := HSt.out hja
            subst hB6
            have H2 : Hid (n2 = m2) := by have := HC.out.2.2.2.1; rw [if_neg (by decide)] at this; exact this
            have hja2 : (S.a : Int) ≤ (j : Int) := by omega
            clear hja
            obtain ⟨z0, z1, z2, z3, z4, z5, z6⟩ := bx7 S8.out.2.2.2.2
            go_wp2
            refine wp_region_noPanic ?_
            refine wp_region_held_drew (S := (fun W => (W.cell? ⟨Y7, 0, none⟩ = some (.int .u32 tag) ∧ W.cell? ⟨Y7, 1, none⟩ = some (.int .i64 6) ∧ W.cell? ⟨Y7, 2, none⟩ = some (.int .i64 140) ∧ W.cell? ⟨Y7, 3, none⟩ = some (.int .u32 ((0 : Nat) : Int)) ∧ W.cell? ⟨Y7, 4, none⟩ = some (.int .i64 0) ∧ W.cell? ⟨Y7, 5, none⟩ = some (.int .i64 0) ∧ W.cell? ⟨Y7, 6, none⟩ = some (.int .i64 0)) ∧ W.cell? ⟨w2.heap.size, 0, none⟩ = some (.pointer (some ⟨b, 0, none⟩)))) (by kernel_rfl) ?_ (fun hHeld => ?_)
            · (exact ⟨bx7 (box_to S8.out.2.2.2.2 (grown_drew w8 none)), C3.out _ (S8.out.1.then (grown_drew w8 none))⟩)
            refine tkH (i := 0) (oi := { dst := some 115, op := Go.Op.fieldAddr 38 (Go.Operand.tmp 19) 2, type := 0, pos := "outright.go:123", after := #[], guard := none }) (v := ?_) rfl ?_ ?_
            rotate_left
            · (intro w hSw; (try dsimp only at hSw); (go_simp <;> with_reducible rfl))
            try simp only [Act.put, List.setIfInBounds_toArray, List.set_cons_zero, List.set_cons_succ]
            refine tkH (i := 1) (oi := { dst := some 116, op := Go.Op.load 36 (Go.Operand.tmp 115), type := 36, pos := "outright.go:123", after := #[{ on := 0, ground := Go.Ground.data }], guard := none }) (v := ?_) rfl ?_ ?_
            rotate_left
            · (intro w hSw; (try dsimp only at hSw); (go_simp <;> with_reducible rfl))
            try simp only [Act.put, List.setIfInBounds_toArray, List.set_cons_zero, List.set_cons_succ]
            refine tkH (i := 2) (oi := { dst := some 117, op := Go.Op.binOp Go.BinOp.eql 36 (Go.Operand.tmp 116) (Go.Operand.const (Go.Value.int Go.IntKind.i64 140)) 36, type := 4, pos := "outright.go:123", after := #[{ on := 1, ground := Go.Ground.data }], guard := none }) (v := ?_) rfl ?_ ?_
            rotate_left
            · (intro w hSw; (try dsimp only at hSw); (go_simp <;> with_reducible rfl))
            try simp only [Act.put, List.setIfInBounds_toArray, List.set_cons_zero, List.set_cons_succ]
            refine tkH (i := 3) (oi := { dst := some 118, op := Go.Op.move (Go.Operand.tmp 16), type := 3, pos := "outright.go:123", after := #[], guard := none }) (v := ?_) rfl ?_ ?_
            rotate_left
            · (intro w hSw; (try dsimp only at hSw); (go_simp <;> with_reducible rfl))
            try simp only [Act.put, List.setIfInBounds_toArray, List.set_cons_zero, List.set_cons_succ]
            refine tkH (i := 4) (oi := { dst := some 119, op := Go.Op.load 26 (Go.Operand.tmp 5), type := 26, pos := "outright.go:123", after := #[], guard := none }) (v := ?_) rfl ?_ ?_
            rotate_left
            · (intro w hSw; (try dsimp only at hSw); (go_simp <;> with_reducible rfl))
            try simp only [Act.put, List.setIfInBounds_toArray, List.set_cons_zero, List.set_cons_succ]
            refine rdH (i := 5) (o := { dst := some 120, op := Go.Op.call { callee := Go.Callee.value (Go.Operand.func 7), args := #[Go.Operand.tmp 119], argTypes := #[26] }, type := 44, pos := "outright.go:123", after := #[{ on := 4, ground := Go.Ground.data }], guard := none }) rfl (fun K hK => ?_)
            go_simp
            refine (HSh.out _ (S8.out.1.then (grown_drew w8 none))).mono ?_; rintro e w9 ⟨rfl, hg⟩; have S9 : Hid (GoQ w0 w9 w4 S p w4.heap.size (w2.heap.size + 1) ∧ Boxed w9 (w2.heap.size + 1) 3 (.int .i64 (S.L.length : Int)) ∧ w9.heap[D]? = some (.deferred (some []))) := ⟨S8.out.1.then (grown_trans (grown_drew w8 none) hg), box_to S8.out.2.1 (grown_trans (grown_drew w8 none) hg), box_to S8.out.2.2.1 (grown_trans (grown_drew w8 none) hg)⟩; have hJ9 := And.intro (bx7 (box_to S8.out.2.2.2.2 (grown_trans (grown_drew w8 none) hg))) (C3.out _ S9.out.1); clear hg
            go_wp2_with fail
            refine hK.out _ _ ?_ (fun hHeld => ?_)
            · ((try dsimp only); assumption)
            clear hK K
            try simp only [Act.put, List.setIfInBounds_toArray, List.set_cons_zero, List.set_cons_succ]
            refine tkH (i := 6) (oi := { dst := some 121, op := Go.Op.field 44 (Go.Operand.tmp 120) 0, type := 3, pos := "outright.go:123", after := #[{ on := 5, ground := Go.Ground.data }], guard := none }) (v := ?_) rfl ?_ ?_
            rotate_left
            · (intro w hSw; refine field_0 (x := .tmp 120) (p := (S.a : Int)) (q := (S.b : Int)) (r := (S.c : Int)) ?_ ?_ w <;> rfl)
            try simp only [Act.put, List.setIfInBounds_toArray, List.set_cons_zero, List.set_cons_succ]
            refine tkH (i := 7) (oi := { dst := some 122, op := Go.Op.binOp Go.BinOp.geq 3 (Go.Operand.tmp 118) (Go.Operand.tmp 121) 3, type := 4, pos := "outright.go:123", after := #[{ on := 3, ground := Go.Ground.data }, { on := 6, ground := Go.Ground.data }], guard := none }) (v := ?_) rfl ?_ ?_
            rotate_left
            · (intro w hSw; refine geq_t (t := 3) (k := .i64) (x := .tmp 118) (y := .tmp 121) (p := (j : Int)) (q := (S.a : Int)) ?_ ?_ ?_ hja2 w <;> rfl)
            try simp only [Act.put, List.setIfInBounds_toArray, List.set_cons_zero, List.set_cons_succ]
            refine tkH (i := 8) (oi := { dst := some 123, op := Go.Op.binOp Go.BinOp.neq 4 (Go.Operand.tmp 117) (Go.Operand.tmp 122) 4, type := 4, pos := "outright.go:123", after := #[{ on := 2, ground := Go.Ground.data }, { on := 7, ground := Go.Ground.data }], guard := none }) (v := ?_) rfl ?_ ?_
            rotate_left
            · (intro w hSw; (try dsimp only at hSw); (go_simp <;> with_reducible rfl))
            try simp only [Act.put, List.setIfInBounds_toArray, List.set_cons_zero, List.set_cons_succ]
            refine tkH (i := 9) (oi := { dst := some 124, op := Go.Op.move (Go.Operand.tmp 123), type := 4, pos := "outright.go:123", after := #[{ on := 8, ground := Go.Ground.data }, { on := 5, ground := Go.Ground.chain }], guard := none }) (v := ?_) rfl ?_ ?_
            rotate_left
            · (intro w hSw; (try dsimp only at hSw); (go_simp <;> with_reducible rfl))
            try simp only [Act.put, List.setIfInBounds_toArray, List.set_cons_zero, List.set_cons_succ]
            refine tkH (i := 10) (oi := { dst := some 125, op := Go.Op.fieldAddr 38 (Go.Operand.tmp 19) 2, type := 0, pos := "outright.go:123", after := #[{ on := 9, ground := Go.Ground.guard }], guard := some (9, false) }) (v := ?_) rfl ?_ ?_
            rotate_left
            · (intro w hSw; (try dsimp only at hSw); (go_simp <;> with_reducible rfl))
            try simp only [Act.put, List.setIfInBounds_toArray, List.set_cons_zero, List.set_cons_succ]
            refine tkH (i := 11) (oi := { dst := some 126, op := Go.Op.load 36 (Go.Operand.tmp 125), type := 36, pos := "outright.go:123", after := #[{ on := 10, ground := Go.Ground.data }, { on := 9, ground := Go.Ground.guard }], guard := some (9, false) }) (v := ?_) rfl ?_ ?_
            rotate_left
            · (intro w hSw; (try dsimp only at hSw); (go_simp <;> with_reducible rfl))
            try simp only [Act.put, List.setIfInBounds_toArray, List.set_cons_zero, List.set_cons_succ]
            refine tkH (i := 12) (oi := { dst := some 127, op := Go.Op.binOp Go.BinOp.neq 36 (Go.Operand.tmp 126) (Go.Operand.const (Go.Value.int Go.IntKind.i64 140)) 36, type := 4, pos := "outright.go:123", after := #[{ on := 11, ground := Go.Ground.data }, { on := 9, ground := Go.Ground.guard }], guard := some (9, false) }) (v := ?_) rfl ?_ ?_
            rotate_left
            · (intro w hSw; (try dsimp only at hSw); (go_simp <;> with_reducible rfl))
            try simp only [Act.put, List.setIfInBounds_toArray, List.set_cons_zero, List.set_cons_succ]
            refine tkH (i := 13) (oi := { dst := some 128, op := Go.Op.move (Go.Operand.tmp 127), type := 4, pos := "outright.go:123", after := #[{ on := 12, ground := Go.Ground.data }, { on := 9, ground := Go.Ground.chain }, { on := 9, ground := Go.Ground.guard }], guard := some (9, false) }) (v := ?_) rfl ?_ ?_
            rotate_left
            · (intro w hSw; (try dsimp only at hSw); (go_simp <;> with_reducible rfl))
            try simp only [Act.put, List.setIfInBounds_toArray, List.set_cons_zero, List.set_cons_succ]
            refine wpAnyH_take (i := 14) (oi := { dst := some 129, op := Go.Op.fieldAddr 38 (Go.Operand.tmp 19) 2, type := 0, pos := "outright.go:123", after := #[{ on := 13, ground := Go.Ground.guard }], guard := some (13, true) }) (v := undef) rfl (by kernel_rfl) (by kernel_rfl) (by kernel_rfl) (fun _ _ _ h => h) (Or.inr ⟨by rfl, rfl⟩) (by assumption) ?_
            try simp only [Act.put, List.setIfInBounds_toArray, List.set_cons_zero, List.set_cons_succ]
            refine wpAnyH_take (i := 15) (oi := { dst := some 130, op := Go.Op.load 36 (Go.Operand.tmp 129), type := 36, pos := "outright.go:123", after := #[{ on := 14, ground := Go.Ground.data }, { on := 13, ground := Go.Ground.guard }], guard := some (13, true) }) (v := undef) rfl (by kernel_rfl) (by kernel_rfl) (by kernel_rfl) (fun _ _ _ h => h) (Or.inr ⟨by rfl, rfl⟩) (by assumption) ?_
            try simp only [Act.put, List.setIfInBounds_toArray, List.set_cons_zero, List.set_cons_succ]
            refine wpAnyH_take (i := 16) (oi := { dst := some 131, op := Go.Op.binOp Go.BinOp.neq 36 (Go.Operand.tmp 130) (Go.Operand.const (Go.Value.int Go.IntKind.i64 171)) 36, type := 4, pos := "outright.go:123", after := #[{ on := 15, ground := Go.Ground.data }, { on := 13, ground := Go.Ground.guard }], guard := some (13, true) }) (v := undef) rfl (by kernel_rfl) (by kernel_rfl) (by kernel_rfl) (fun _ _ _ h => h) (Or.inr ⟨by rfl, rfl⟩) (by assumption) ?_
            try simp only [Act.put, List.setIfInBounds_toArray, List.set_cons_zero, List.set_cons_succ]
            refine tkH (i := 17) (oi := { dst := some 132, op := Go.Op.pick (Go.Operand.tmp 128) (Go.Operand.tmp 131) (Go.Operand.const (Go.Value.bool false)), type := 4, pos := "outright.go:123", after := #[{ on := 13, ground := Go.Ground.data }, { on := 16, ground := Go.Ground.data }, { on := 9, ground := Go.Ground.guard }], guard := some (9, false) }) (v := ?_) rfl ?_ ?_
            rotate_left
            · (intro w hSw; (try dsimp only at hSw); (go_simp <;> with_reducible rfl))
            try simp only [Act.put, List.setIfInBounds_toArray, List.set_cons_zero, List.set_cons_succ]
            refine tkH (i := 18) (oi := { dst := some 133, op := Go.Op.pick (Go.Operand.tmp 124) (Go.Operand.const (Go.Value.bool true)) (Go.Operand.tmp 132), type := 4, pos := "outright.go:123", after := #[{ on := 9, ground := Go.Ground.data }, { on := 17, ground := Go.Ground.data }], guard := none }) (v := ?_) rfl ?_ ?_
            rotate_left
            · (intro w hSw; (try dsimp only at hSw); (go_simp <;> with_reducible rfl))
            try simp only [Act.put, List.setIfInBounds_toArray, List.set_cons_zero, List.set_cons_succ]
            refine tkH (i := 19) (oi := { dst := some 134, op := Go.Op.move (Go.Operand.tmp 133), type := 4, pos := "outright.go:123", after := #[{ on := 18, ground := Go.Ground.data }, { on := 13, ground := Go.Ground.chain }], guard := none }) (v := ?_) rfl ?_ ?_
            rotate_left
            · (intro w hSw; (try dsimp only at hSw); (go_simp <;> with_reducible rfl))
            try simp only [Act.put, List.setIfInBounds_toArray, List.set_cons_zero, List.set_cons_succ]
            refine tkH (i := 20) (oi := { dst := some 135, op := Go.Op.fieldAddr 38 (Go.Operand.tmp 19) 3, type := 0, pos := "outright.go:123", after := #[{ on := 19, ground := Go.Ground.guard }], guard := some (19, false) }) (v := ?_) rfl ?_ ?_
            rotate_left
            · (intro w hSw; (try dsimp only at hSw); (go_simp <;> with_reducible rfl))
            try simp only [Act.put, List.setIfInBounds_toArray, List.set_cons_zero, List.set_cons_succ]
            refine tkH (i := 21) (oi := { dst := some 136, op := Go.Op.load 23 (Go.Operand.tmp 135), type := 23, pos := "outright.go:123", after := #[{ on := 20, ground := Go.Ground.data }, { on := 19, ground := Go.Ground.guard }], guard := some (19, false) }) (v := ?_) rfl ?_ ?_
            rotate_left
            · (intro w hSw; (try dsimp only at hSw); (go_simp <;> with_reducible rfl))
            try simp only [Act.put, List.setIfInBounds_toArray, List.set_cons_zero, List.set_cons_succ]
            refine tkH (i := 22) (oi := { dst := some 137, op := Go.Op.binOp Go.BinOp.neq 23 (Go.Operand.tmp 136) (Go.Operand.const (Go.Value.int Go.IntKind.u32 0)) 23, type := 4, pos := "outright.go:123", after := #[{ on := 21, ground := Go.Ground.data }, { on := 19, ground := Go.Ground.guard }], guard := some (19, false) }) (v := ?_) rfl ?_ ?_
            rotate_left
            · (intro w hSw; (try dsimp only at hSw); (go_simp <;> with_reducible rfl))
            try simp only [Act.put, List.setIfInBounds_toArray, List.set_cons_zero, List.set_cons_succ]
            refine tkH (i := 23) (oi := { dst := some 138, op := Go.Op.pick (Go.Operand.tmp 134) (Go.Operand.const (Go.Value.bool true)) (Go.Operand.tmp 137), type := 4, pos := "outright.go:123", after := #[{ on := 19, ground := Go.Ground.data }, { on := 22, ground := Go.Ground.data }], guard := none }) (v := ?_) rfl ?_ ?_
            rotate_left
            · (intro w hSw; (try dsimp only at hSw); (go_simp <;> with_reducible rfl))
            try simp only [Act.put, List.setIfInBounds_toArray, List.set_cons_zero, List.set_cons_succ]
            refine tkH (i := 24) (oi := { dst := some 139, op := Go.Op.move (Go.Operand.tmp 138), type := 4, pos := "outright.go:123", after := #[{ on := 23, ground := Go.Ground.data }, { on := 19, ground := Go.Ground.chain }], guard := none }) (v := ?_) rfl ?_ ?_
            rotate_left
            · (intro w hSw; (try dsimp only at hSw); (go_simp <;> with_reducible rfl))
            try simp only [Act.put, List.setIfInBounds_toArray, List.set_cons_zero, List.set_cons_succ]
            refine tkH (i := 25) (oi := { dst := some 140, op := Go.Op.fieldAddr 38 (Go.Operand.tmp 19) 5, type := 0, pos := "outright.go:123", after := #[{ on := 24, ground := Go.Ground.guard }], guard := some (24, false) }) (v := ?_) rfl ?_ ?_
            rotate_left
            · (intro w hSw; (try dsimp only at hSw); (go_simp <;> with_reducible rfl))
            try simp only [Act.put, List.setIfInBounds_toArray, List.set_cons_zero, List.set_cons_succ]
            refine tkH (i := 26) (oi := { dst := some 141, op := Go.Op.load 2 (Go.Operand.tmp 140), type := 2, pos := "outright.go:123", after := #[{ on := 25, ground := Go.Ground.data }, { on := 24, ground := Go.Ground.guard }], guard := some (24, false) }) (v := ?_) rfl ?_ ?_
            rotate_left
            · (intro w hSw; (try dsimp only at hSw); (go_simp <;> with_reducible rfl))
            try simp only [Act.put, List.setIfInBounds_toArray, List.set_cons_zero, List.set_cons_succ]
            refine tkH (i := 27) (oi := { dst := some 142, op := Go.Op.binOp Go.BinOp.neq 2 (Go.Operand.tmp 141) (Go.Operand.const (Go.Value.int Go.IntKind.i64 0)) 2, type := 4, pos := "outright.go:123", after := #[{ on := 26, ground := Go.Ground.data }, { on := 24, ground := Go.Ground.guard }], guard := some (24, false) }) (v := ?_) rfl ?_ ?_
            rotate_left
            · (intro w hSw; (try dsimp only at hSw); (go_simp <;> with_reducible rfl))
            try simp only [Act.put, List.setIfInBounds_toArray, List.set_cons_zero, List.set_cons_succ]
            refine tkH (i := 28) (oi := { dst := some 143, op := Go.Op.pick (Go.Operand.tmp 139) (Go.Operand.const (Go.Value.bool true)) (Go.Operand.tmp 142), type := 4, pos := "outright.go:123", after := #[{ on := 24, ground := Go.Ground.data }, { on := 27, ground := Go.Ground.data }], guard := none }) (v := ?_) rfl ?_ ?_
            rotate_left
            · (intro w hSw; (try dsimp only at hSw); (go_simp <;> with_reducible rfl))
            try simp only [Act.put, List.setIfInBounds_toArray, List.set_cons_zero, List.set_cons_succ]
            refine wpAnyH_done (by kernel_rfl) ?_ _
            refine NoPanic.normal ?_
            go_wp2
            go_roundg (gk - 1)
            case measure => have := HK.out; omega
            case rel => exact ⟨j + 1, by have := HK.out; omega, by rw [← HN1.out], by rw [← HN2.out, H2.out], by rw [HN.out], S9.out⟩
        · cases hX5
          have H1 : Hid (n1 = m1) := by have := HC.out.2.2.1; rw [if_neg (by decide)] at this; exact this
          have hE5 := HE5.out
          rw [if_neg (by decide)] at hE5
          subst hE5
          obtain ⟨y0, y1, y2, y3, y4, y5, y6⟩ := bx7 S8.out.2.2.2.1
          rcases HNu.out with ⟨hja, rfl, rfl⟩ | ⟨hja, rfl, rfl, hX6⟩ | ⟨hja, rfl, hX6⟩
          · have hw2 : IntKind.i64.wrap ((m2 : Int) + 1) = ((n2 : Nat) : Int) := by have := HC.out; rw [if_pos rfl] at this; rw [IntKind.wrap_i64]; omega
            obtain ⟨z0, z1, z2, z3, z4, z5, z6⟩ := bx7 S8.out.2.2.2.2
            go_wp2
            go_roundg (gk - 1)
            case measure => have := HK.out; omega
            case rel => exact ⟨j + 1, by have := HK.out; omega, by rw [← HN1.out, H1.out], by rw [← HN2.out], by rw [HN.out], ⟨S8.out.1, S8.out.2.1, S8.out.2.2.1⟩⟩
          · cases hX6
            have H2 : Hid (n2 = m2) := by have := HC.out.2.2.2.1; rw [if_neg (by decide)] at this; exact this
            have hd1 : decide ((j : Int) ≥ (S.a : Int)) = false := decide_eq_false (by omega)
            have hja2 : (j : Int) < (S.a : Int) := by omega
            clear hja
            obtain ⟨z0, z1, z2, z3, z4, z5, z6⟩ := bx7 S8.out.2.2.2.2
            go_wp2
            refine wp_region_noPanic ?_
            refine wp_region_held_drew (S := (fun W => (W.cell? ⟨Y7, 0, none⟩ = some (.int .u32 tag) ∧ W.cell? ⟨Y7, 1, none⟩ = some (.int .i64 6) ∧ W.cell? ⟨Y7, 2, none⟩ = some (.int .i64 171) ∧ W.cell? ⟨Y7, 3, none⟩ = some (.int .u32 ((0 : Nat) : Int)) ∧ W.cell? ⟨Y7, 4, none⟩ = some (.int .i64 0) ∧ W.cell? ⟨Y7, 5, none⟩ = some (.int .i64 0) ∧ W.cell? ⟨Y7, 6, none⟩ = some (.int .i64 0)) ∧ W.cell? ⟨w2.heap.size, 0, none⟩ = some (.pointer (some ⟨b, 0, none⟩)))) (by kernel_rfl) ?_ (fun hHeld => ?_)
            · (exact ⟨bx7 (box_to S8.out.2.2.2.2 (grown_drew w8 none)), C3.out _ (S8.out.1.then (grown_drew w8 none))⟩)
            refine tkH (i := 0) (oi := { dst := some 115, op := Go.Op.fieldAddr 38 (Go.Operand.tmp 19) 2, type := 0, pos := "outright.go:123", after := #[], guard := none }) (v := ?_) rfl ?_ ?_
            rotate_left
            · (intro w hSw; (try dsimp only at hSw); (go_simp <;> with_reducible rfl))
            try simp only [Act.put, List.setIfInBounds_toArray, List.set_cons_zero, List.set_cons_succ]
            refine tkH (i := 1) (oi := { dst := some 116, op := Go.Op.load 36 (Go.Operand.tmp 115), type := 36, pos := "outright.go:123", after := #[{ on := 0, ground := Go.Ground.data }], guard := none }) (v := ?_) rfl ?_ ?_
            rotate_left
            · (intro w hSw; (try dsimp only at hSw); (go_simp <;> with_reducible rfl))
            try simp only [Act.put, List.setIfInBounds_toArray, List.set_cons_zero, List.set_cons_succ]
            refine tkH (i := 2) (oi := { dst := some 117, op := Go.Op.binOp Go.BinOp.eql 36 (Go.Operand.tmp 116) (Go.Operand.const (Go.Value.int Go.IntKind.i64 140)) 36, type := 4, pos := "outright.go:123", after := #[{ on := 1, ground := Go.Ground.data }], guard := none }) (v := ?_) rfl ?_ ?_
            rotate_left
            · (intro w hSw; (try dsimp only at hSw); (go_simp <;> with_reducible rfl))
            try simp only [Act.put, List.setIfInBounds_toArray, List.set_cons_zero, List.set_cons_succ]
            refine tkH (i := 3) (oi := { dst := some 118, op := Go.Op.move (Go.Operand.tmp 16), type := 3, pos := "outright.go:123", after := #[], guard := none }) (v := ?_) rfl ?_ ?_
            rotate_left
            · (intro w hSw; (try dsimp only at hSw); (go_simp <;> with_reducible rfl))
            try simp only [Act.put, List.setIfInBounds_toArray, List.set_cons_zero, List.set_cons_succ]
            refine tkH (i := 4) (oi := { dst := some 119, op := Go.Op.load 26 (Go.Operand.tmp 5), type := 26, pos := "outright.go:123", after := #[], guard := none }) (v := ?_) rfl ?_ ?_
            rotate_left
            · (intro w hSw; (try dsimp only at hSw); (go_simp <;> with_reducible rfl))
            try simp only [Act.put, List.setIfInBounds_toArray, List.set_cons_zero, List.set_cons_succ]
            refine rdH (i := 5) (o := { dst := some 120, op := Go.Op.call { callee := Go.Callee.value (Go.Operand.func 7), args := #[Go.Operand.tmp 119], argTypes := #[26] }, type := 44, pos := "outright.go:123", after := #[{ on := 4, ground := Go.Ground.data }], guard := none }) rfl (fun K hK => ?_)
            go_simp
            refine (HSh.out _ (S8.out.1.then (grown_drew w8 none))).mono ?_; rintro e w9 ⟨rfl, hg⟩; have S9 : Hid (GoQ w0 w9 w4 S p w4.heap.size (w2.heap.size + 1) ∧ Boxed w9 (w2.heap.size + 1) 3 (.int .i64 (S.L.length : Int)) ∧ w9.heap[D]? = some (.deferred (some []))) := ⟨S8.out.1.then (grown_trans (grown_drew w8 none) hg), box_to S8.out.2.1 (grown_trans (grown_drew w8 none) hg), box_to S8.out.2.2.1 (grown_trans (grown_drew w8 none) hg)⟩; have hJ9 := And.intro (bx7 (box_to S8.out.2.2.2.2 (grown_trans (grown_drew w8 none) hg))) (C3.out _ S9.out.1); clear hg
            go_wp2_with fail
            refine hK.out _ _ ?_ (fun hHeld => ?_)
            · ((try dsimp only); assumption)
            clear hK K
            try simp only [Act.put, List.setIfInBounds_toArray, List.set_cons_zero, List.set_cons_succ]
            refine tkH (i := 6) (oi := { dst := some 121, op := Go.Op.field 44 (Go.Operand.tmp 120) 0, type := 3, pos := "outright.go:123", after := #[{ on := 5, ground := Go.Ground.data }], guard := none }) (v := ?_) rfl ?_ ?_
            rotate_left
            · (intro w hSw; refine field_0 (x := .tmp 120) (p := (S.a : Int)) (q := (S.b : Int)) (r := (S.c : Int)) ?_ ?_ w <;> rfl)
            try simp only [Act.put, List.setIfInBounds_toArray, List.set_cons_zero, List.set_cons_succ]
            refine tkH (i := 7) (oi := { dst := some 122, op := Go.Op.binOp Go.BinOp.geq 3 (Go.Operand.tmp 118) (Go.Operand.tmp 121) 3, type := 4, pos := "outright.go:123", after := #[{ on := 3, ground := Go.Ground.data }, { on := 6, ground := Go.Ground.data }], guard := none }) (v := ?_) rfl ?_ ?_
            rotate_left
            · (intro w hSw; refine geq_f (t := 3) (k := .i64) (x := .tmp 118) (y := .tmp 121) (p := (j : Int)) (q := (S.a : Int)) ?_ ?_ ?_ hja2 w <;> rfl)
            try simp only [Act.put, List.setIfInBounds_toArray, List.set_cons_zero, List.set_cons_succ]
            refine tkH (i := 8) (oi := { dst := some 123, op := Go.Op.binOp Go.BinOp.neq 4 (Go.Operand.tmp 117) (Go.Operand.tmp 122) 4, type := 4, pos := "outright.go:123", after := #[{ on := 2, ground := Go.Ground.data }, { on := 7, ground := Go.Ground.data }], guard := none }) (v := ?_) rfl ?_ ?_
            rotate_left
            · (intro w hSw; (try dsimp only at hSw); (go_simp <;> with_reducible rfl))
            try simp only [Act.put, List.setIfInBounds_toArray, List.set_cons_zero, List.set_cons_succ]
            refine tkH (i := 9) (oi := { dst := some 124, op := Go.Op.move (Go.Operand.tmp 123), type := 4, pos := "outright.go:123", after := #[{ on := 8, ground := Go.Ground.data }, { on := 5, ground := Go.Ground.chain }], guard := none }) (v := ?_) rfl ?_ ?_
            rotate_left
            · (intro w hSw; (try dsimp only at hSw); (go_simp <;> with_reducible rfl))
            try simp only [Act.put, List.setIfInBounds_toArray, List.set_cons_zero, List.set_cons_succ]
            refine tkH (i := 10) (oi := { dst := some 125, op := Go.Op.fieldAddr 38 (Go.Operand.tmp 19) 2, type := 0, pos := "outright.go:123", after := #[{ on := 9, ground := Go.Ground.guard }], guard := some (9, false) }) (v := ?_) rfl ?_ ?_
            rotate_left
            · (intro w hSw; (try dsimp only at hSw); (go_simp <;> with_reducible rfl))
            try simp only [Act.put, List.setIfInBounds_toArray, List.set_cons_zero, List.set_cons_succ]
            refine tkH (i := 11) (oi := { dst := some 126, op := Go.Op.load 36 (Go.Operand.tmp 125), type := 36, pos := "outright.go:123", after := #[{ on := 10, ground := Go.Ground.data }, { on := 9, ground := Go.Ground.guard }], guard := some (9, false) }) (v := ?_) rfl ?_ ?_
            rotate_left
            · (intro w hSw; (try dsimp only at hSw); (go_simp <;> with_reducible rfl))
            try simp only [Act.put, List.setIfInBounds_toArray, List.set_cons_zero, List.set_cons_succ]
            refine tkH (i := 12) (oi := { dst := some 127, op := Go.Op.binOp Go.BinOp.neq 36 (Go.Operand.tmp 126) (Go.Operand.const (Go.Value.int Go.IntKind.i64 140)) 36, type := 4, pos := "outright.go:123", after := #[{ on := 11, ground := Go.Ground.data }, { on := 9, ground := Go.Ground.guard }], guard := some (9, false) }) (v := ?_) rfl ?_ ?_
            rotate_left
            · (intro w hSw; (try dsimp only at hSw); (go_simp <;> with_reducible rfl))
            try simp only [Act.put, List.setIfInBounds_toArray, List.set_cons_zero, List.set_cons_succ]
            refine tkH (i := 13) (oi := { dst := some 128, op := Go.Op.move (Go.Operand.tmp 127), type := 4, pos := "outright.go:123", after := #[{ on := 12, ground := Go.Ground.data }, { on := 9, ground := Go.Ground.chain }, { on := 9, ground := Go.Ground.guard }], guard := some (9, false) }) (v := ?_) rfl ?_ ?_
            rotate_left
            · (intro w hSw; (try dsimp only at hSw); (go_simp <;> with_reducible rfl))
            try simp only [Act.put, List.setIfInBounds_toArray, List.set_cons_zero, List.set_cons_succ]
            refine tkH (i := 14) (oi := { dst := some 129, op := Go.Op.fieldAddr 38 (Go.Operand.tmp 19) 2, type := 0, pos := "outright.go:123", after := #[{ on := 13, ground := Go.Ground.guard }], guard := some (13, true) }) (v := ?_) rfl ?_ ?_
            rotate_left
            · (intro w hSw; (try dsimp only at hSw); (go_simp <;> with_reducible rfl))
            try simp only [Act.put, List.setIfInBounds_toArray, List.set_cons_zero, List.set_cons_succ]
            refine tkH (i := 15) (oi := { dst := some 130, op := Go.Op.load 36 (Go.Operand.tmp 129), type := 36, pos := "outright.go:123", after := #[{ on := 14, ground := Go.Ground.data }, { on := 13, ground := Go.Ground.guard }], guard := some (13, true) }) (v := ?_) rfl ?_ ?_
            rotate_left
            · (intro w hSw; (try dsimp only at hSw); (go_simp <;> with_reducible rfl))
            try simp only [Act.put, List.setIfInBounds_toArray, List.set_cons_zero, List.set_cons_succ]
            refine tkH (i := 16) (oi := { dst := some 131, op := Go.Op.binOp Go.BinOp.neq 36 (Go.Operand.tmp 130) (Go.Operand.const (Go.Value.int Go.IntKind.i64 171)) 36, type := 4, pos := "outright.go:123", after := #[{ on := 15, ground := Go.Ground.data }, { on := 13, ground := Go.Ground.guard }], guard := some (13, true) }) (v := ?_) rfl ?_ ?_
            rotate_left
            · (intro w hSw; (try dsimp only at hSw); (go_simp <;> with_reducible rfl))
            try simp only [Act.put, List.setIfInBounds_toArray, List.set_cons_zero, List.set_cons_succ]
            refine tkH (i := 17) (oi := { dst := some 132, op := Go.Op.pick (Go.Operand.tmp 128) (Go.Operand.tmp 131) (Go.Operand.const (Go.Value.bool false)), type := 4, pos := "outright.go:123", after := #[{ on := 13, ground := Go.Ground.data }, { on := 16, ground := Go.Ground.data }, { on := 9, ground := Go.Ground.guard }], guard := some (9, false) }) (v := ?_) rfl ?_ ?_
            rotate_left
            · (intro w hSw; (try dsimp only at hSw); (go_simp <;> with_reducible rfl))
            try simp only [Act.put, List.setIfInBounds_toArray, List.set_cons_zero, List.set_cons_succ]
            refine tkH (i := 18) (oi := { dst := some 133, op := Go.Op.pick (Go.Operand.tmp 124) (Go.Operand.const (Go.Value.bool true)) (Go.Operand.tmp 132), type := 4, pos := "outright.go:123", after := #[{ on := 9, ground := Go.Ground.data }, { on := 17, ground := Go.Ground.data }], guard := none }) (v := ?_) rfl ?_ ?_
            rotate_left
            · (intro w hSw; (try dsimp only at hSw); (go_simp <;> with_reducible rfl))
            try simp only [Act.put, List.setIfInBounds_toArray, List.set_cons_zero, List.set_cons_succ]
            refine tkH (i := 19) (oi := { dst := some 134, op := Go.Op.move (Go.Operand.tmp 133), type := 4, pos := "outright.go:123", after := #[{ on := 18, ground := Go.Ground.data }, { on := 13, ground := Go.Ground.chain }], guard := none }) (v := ?_) rfl ?_ ?_
            rotate_left
            · (intro w hSw; (try dsimp only at hSw); (go_simp <;> with_reducible rfl))
            try simp only [Act.put, List.setIfInBounds_toArray, List.set_cons_zero, List.set_cons_succ]
            refine tkH (i := 20) (oi := { dst := some 135, op := Go.Op.fieldAddr 38 (Go.Operand.tmp 19) 3, type := 0, pos := "outright.go:123", after := #[{ on := 19, ground := Go.Ground.guard }], guard := some (19, false) }) (v := ?_) rfl ?_ ?_
            rotate_left
            · (intro w hSw; (try dsimp only at hSw); (go_simp <;> with_reducible rfl))
            try simp only [Act.put, List.setIfInBounds_toArray, List.set_cons_zero, List.set_cons_succ]
            refine tkH (i := 21) (oi := { dst := some 136, op := Go.Op.load 23 (Go.Operand.tmp 135), type := 23, pos := "outright.go:123", after := #[{ on := 20, ground := Go.Ground.data }, { on := 19, ground := Go.Ground.guard }], guard := some (19, false) }) (v := ?_) rfl ?_ ?_
            rotate_left
            · (intro w hSw; (try dsimp only at hSw); (go_simp <;> with_reducible rfl))
            try simp only [Act.put, List.setIfInBounds_toArray, List.set_cons_zero, List.set_cons_succ]
            refine tkH (i := 22) (oi := { dst := some 137, op := Go.Op.binOp Go.BinOp.neq 23 (Go.Operand.tmp 136) (Go.Operand.const (Go.Value.int Go.IntKind.u32 0)) 23, type := 4, pos := "outright.go:123", after := #[{ on := 21, ground := Go.Ground.data }, { on := 19, ground := Go.Ground.guard }], guard := some (19, false) }) (v := ?_) rfl ?_ ?_
            rotate_left
            · (intro w hSw; (try dsimp only at hSw); (go_simp <;> with_reducible rfl))
            try simp only [Act.put, List.setIfInBounds_toArray, List.set_cons_zero, List.set_cons_succ]
            refine tkH (i := 23) (oi := { dst := some 138, op := Go.Op.pick (Go.Operand.tmp 134) (Go.Operand.const (Go.Value.bool true)) (Go.Operand.tmp 137), type := 4, pos := "outright.go:123", after := #[{ on := 19, ground := Go.Ground.data }, { on := 22, ground := Go.Ground.data }], guard := none }) (v := ?_) rfl ?_ ?_
            rotate_left
            · (intro w hSw; (try dsimp only at hSw); (go_simp <;> with_reducible rfl))
            try simp only [Act.put, List.setIfInBounds_toArray, List.set_cons_zero, List.set_cons_succ]
            refine tkH (i := 24) (oi := { dst := some 139, op := Go.Op.move (Go.Operand.tmp 138), type := 4, pos := "outright.go:123", after := #[{ on := 23, ground := Go.Ground.data }, { on := 19, ground := Go.Ground.chain }], guard := none }) (v := ?_) rfl ?_ ?_
            rotate_left
            · (intro w hSw; (try dsimp only at hSw); (go_simp <;> with_reducible rfl))
            try simp only [Act.put, List.setIfInBounds_toArray, List.set_cons_zero, List.set_cons_succ]
            refine tkH (i := 25) (oi := { dst := some 140, op := Go.Op.fieldAddr 38 (Go.Operand.tmp 19) 5, type := 0, pos := "outright.go:123", after := #[{ on := 24, ground := Go.Ground.guard }], guard := some (24, false) }) (v := ?_) rfl ?_ ?_
            rotate_left
            · (intro w hSw; (try dsimp only at hSw); (go_simp <;> with_reducible rfl))
            try simp only [Act.put, List.setIfInBounds_toArray, List.set_cons_zero, List.set_cons_succ]
            refine tkH (i := 26) (oi := { dst := some 141, op := Go.Op.load 2 (Go.Operand.tmp 140), type := 2, pos := "outright.go:123", after := #[{ on := 25, ground := Go.Ground.data }, { on := 24, ground := Go.Ground.guard }], guard := some (24, false) }) (v := ?_) rfl ?_ ?_
            rotate_left
            · (intro w hSw; (try dsimp only at hSw); (go_simp <;> with_reducible rfl))
            try simp only [Act.put, List.setIfInBounds_toArray, List.set_cons_zero, List.set_cons_succ]
            refine tkH (i := 27) (oi := { dst := some 142, op := Go.Op.binOp Go.BinOp.neq 2 (Go.Operand.tmp 141) (Go.Operand.const (Go.Value.int Go.IntKind.i64 0)) 2, type := 4, pos := "outright.go:123", after := #[{ on := 26, ground := Go.Ground.data }, { on := 24, ground := Go.Ground.guard }], guard := some (24, false) }) (v := ?_) rfl ?_ ?_
            rotate_left
            · (intro w hSw; (try dsimp only at hSw); (go_simp <;> with_reducible rfl))
            try simp only [Act.put, List.setIfInBounds_toArray, List.set_cons_zero, List.set_cons_succ]
            refine tkH (i := 28) (oi := { dst := some 143, op := Go.Op.pick (Go.Operand.tmp 139) (Go.Operand.const (Go.Value.bool true)) (Go.Operand.tmp 142), type := 4, pos := "outright.go:123", after := #[{ on := 24, ground := Go.Ground.data }, { on := 27, ground := Go.Ground.data }], guard := none }) (v := ?_) rfl ?_ ?_
            rotate_left
            · (intro w hSw; (try dsimp only at hSw); (go_simp <;> with_reducible rfl))
            try simp only [Act.put, List.setIfInBounds_toArray, List.set_cons_zero, List.set_cons_succ]
            refine wpAnyH_done (by kernel_rfl) ?_ _
            refine NoPanic.normal ?_
            go_wp2
            go_roundg (gk - 1)
            case measure => have := HK.out; omega
            case rel => exact ⟨j + 1, by have := HK.out; omega, by rw [← HN1.out, H1.out], by rw [← HN2.out, H2.out], by rw [HN.out], S9.out⟩
          · cases hX6
            have hB6 := HSt.out hja
            subst hB6
            have H2 : Hid (n2 = m2) := by have := HC.out.2.2.2.1; rw [if_neg (by decide)] at this; exact this
            have hja2 : (S.a : Int) ≤ (j : Int) := by omega
            clear hja
            obtain ⟨z0, z1, z2, z3, z4, z5, z6⟩ := bx7 S8.out.2.2.2.2
            go_wp2
            refine wp_region_noPanic ?_
            refine wp_region_held_drew (S := (fun W => (W.cell? ⟨Y7, 0, none⟩ = some (.int .u32 tag) ∧ W.cell? ⟨Y7, 1, none⟩ = some (.int .i64 6) ∧ W.cell? ⟨Y7, 2, none⟩ = some (.int .i64 140) ∧ W.cell? ⟨Y7, 3, none⟩ = some (.int .u32 ((0 : Nat) : Int)) ∧ W.cell? ⟨Y7, 4, none⟩ = some (.int .i64 0) ∧ W.cell? ⟨Y7, 5, none⟩ = some (.int .i64 0) ∧ W.cell? ⟨Y7, 6, none⟩ = some (.int .i64 0)) ∧ W.cell? ⟨w2.heap.size, 0, none⟩ = some (.pointer (some ⟨b, 0, none⟩)))) (by kernel_rfl) ?_ (fun hHeld => ?_)
            · (exact ⟨bx7 (box_to S8.out.2.2.2.2 (grown_drew w8 none)), C3.out _ (S8.out.1.then (grown_drew w8 none))⟩)
            refine tkH (i := 0) (oi := { dst := some 115, op := Go.Op.fieldAddr 38 (Go.Operand.tmp 19) 2, type := 0, pos := "outright.go:123", after := #[], guard := none }) (v := ?_) rfl ?_ ?_
            rotate_left
            · (intro w hSw; (try dsimp only at hSw); (go_simp <;> with_reducible rfl))
            try simp only [Act.put, List.setIfInBounds_toArray, List.set_cons_zero, List.set_cons_succ]
            refine tkH (i := 1) (oi := { dst := some 116, op := Go.Op.load 36 (Go.Operand.tmp 115), type := 36, pos := "outright.go:123", after := #[{ on := 0, ground := Go.Ground.data }], guard := none }) (v := ?_) rfl ?_ ?_
            rotate_left
            · (intro w hSw; (try dsimp only at hSw); (go_simp <;> with_reducible rfl))
            try simp only [Act.put, List.setIfInBounds_toArray, List.set_cons_zero, List.set_cons_succ]
            refine tkH (i := 2) (oi := { dst := some 117, op := Go.Op.binOp Go.BinOp.eql 36 (Go.Operand.tmp 116) (Go.Operand.const (Go.Value.int Go.IntKind.i64 140)) 36, type := 4, pos := "outright.go:123", after := #[{ on := 1, ground := Go.Ground.data }], guard := none }) (v := ?_) rfl ?_ ?_
            rotate_left
            · (intro w hSw; (try dsimp only at hSw); (go_simp <;> with_reducible rfl))
            try simp only [Act.put, List.setIfInBounds_toArray, List.set_cons_zero, List.set_cons_succ]
            refine tkH (i := 3) (oi := { dst := some 118, op := Go.Op.move (Go.Operand.tmp 16), type := 3, pos := "outright.go:123", after := #[], guard := none }) (v := ?_) rfl ?_ ?_
            rotate_left
            · (intro w hSw; (try dsimp only at hSw); (go_simp <;> with_reducible rfl))
            try simp only [Act.put, List.setIfInBounds_toArray, List.set_cons_zero, List.set_cons_succ]
            refine tkH (i := 4) (oi := { dst := some 119, op := Go.Op.load 26 (Go.Operand.tmp 5), type := 26, pos := "outright.go:123", after := #[], guard := none }) (v := ?_) rfl ?_ ?_
            rotate_left
            · (intro w hSw; (try dsimp only at hSw); (go_simp <;> with_reducible rfl))
            try simp only [Act.put, List.setIfInBounds_toArray, List.set_cons_zero, List.set_cons_succ]
            refine rdH (i := 5) (o := { dst := some 120, op := Go.Op.call { callee := Go.Callee.value (Go.Operand.func 7), args := #[Go.Operand.tmp 119], argTypes := #[26] }, type := 44, pos := "outright.go:123", after := #[{ on := 4, ground := Go.Ground.data }], guard := none }) rfl (fun K hK => ?_)
            go_simp
            refine (HSh.out _ (S8.out.1.then (grown_drew w8 none))).mono ?_; rintro e w9 ⟨rfl, hg⟩; have S9 : Hid (GoQ w0 w9 w4 S p w4.heap.size (w2.heap.size + 1) ∧ Boxed w9 (w2.heap.size + 1) 3 (.int .i64 (S.L.length : Int)) ∧ w9.heap[D]? = some (.deferred (some []))) := ⟨S8.out.1.then (grown_trans (grown_drew w8 none) hg), box_to S8.out.2.1 (grown_trans (grown_drew w8 none) hg), box_to S8.out.2.2.1 (grown_trans (grown_drew w8 none) hg)⟩; have hJ9 := And.intro (bx7 (box_to S8.out.2.2.2.2 (grown_trans (grown_drew w8 none) hg))) (C3.out _ S9.out.1); clear hg
            go_wp2_with fail
            refine hK.out _ _ ?_ (fun hHeld => ?_)
            · ((try dsimp only); assumption)
            clear hK K
            try simp only [Act.put, List.setIfInBounds_toArray, List.set_cons_zero, List.set_cons_succ]
            refine tkH (i := 6) (oi := { dst := some 121, op := Go.Op.field 44 (Go.Operand.tmp 120) 0, type := 3, pos := "outright.go:123", after := #[{ on := 5, ground := Go.Ground.data }], guard := none }) (v := ?_) rfl ?_ ?_
            rotate_left
            · (intro w hSw; refine field_0 (x := .tmp 120) (p := (S.a : Int)) (q := (S.b : Int)) (r := (S.c : Int)) ?_ ?_ w <;> rfl)
            try simp only [Act.put, List.setIfInBounds_toArray, List.set_cons_zero, List.set_cons_succ]
            refine tkH (i := 7) (oi := { dst := some 122, op := Go.Op.binOp Go.BinOp.geq 3 (Go.Operand.tmp 118) (Go.Operand.tmp 121) 3, type := 4, pos := "outright.go:123", after := #[{ on := 3, ground := Go.Ground.data }, { on := 6, ground := Go.Ground.data }], guard := none }) (v := ?_) rfl ?_ ?_
            rotate_left
            · (intro w hSw; refine geq_t (t := 3) (k := .i64) (x := .tmp 118) (y := .tmp 121) (p := (j : Int)) (q := (S.a : Int)) ?_ ?_ ?_ hja2 w <;> rfl)
            try simp only [Act.put, List.setIfInBounds_toArray, List.set_cons_zero, List.set_cons_succ]
            refine tkH (i := 8) (oi := { dst := some 123, op := Go.Op.binOp Go.BinOp.neq 4 (Go.Operand.tmp 117) (Go.Operand.tmp 122) 4, type := 4, pos := "outright.go:123", after := #[{ on := 2, ground := Go.Ground.data }, { on := 7, ground := Go.Ground.data }], guard := none }) (v := ?_) rfl ?_ ?_
            rotate_left
            · (intro w hSw; (try dsimp only at hSw); (go_simp <;> with_reducible rfl))
            try simp only [Act.put, List.setIfInBounds_toArray, List.set_cons_zero, List.set_cons_succ]
            refine tkH (i := 9) (oi := { dst := some 124, op := Go.Op.move (Go.Operand.tmp 123), type := 4, pos := "outright.go:123", after := #[{ on := 8, ground := Go.Ground.data }, { on := 5, ground := Go.Ground.chain }], guard := none }) (v := ?_) rfl ?_ ?_
            rotate_left
            · (intro w hSw; (try dsimp only at hSw); (go_simp <;> with_reducible rfl))
            try simp only [Act.put, List.setIfInBounds_toArray, List.set_cons_zero, List.set_cons_succ]
            refine tkH (i := 10) (oi := { dst := some 125, op := Go.Op.fieldAddr 38 (Go.Operand.tmp 19) 2, type := 0, pos := "outright.go:123", after := #[{ on := 9, ground := Go.Ground.guard }], guard := some (9, false) }) (v := ?_) rfl ?_ ?_
            rotate_left
            · (intro w hSw; (try dsimp only at hSw); (go_simp <;> with_reducible rfl))
            try simp only [Act.put, List.setIfInBounds_toArray, List.set_cons_zero, List.set_cons_succ]
            refine tkH (i := 11) (oi := { dst := some 126, op := Go.Op.load 36 (Go.Operand.tmp 125), type := 36, pos := "outright.go:123", after := #[{ on := 10, ground := Go.Ground.data }, { on := 9, ground := Go.Ground.guard }], guard := some (9, false) }) (v := ?_) rfl ?_ ?_
            rotate_left
            · (intro w hSw; (try dsimp only at hSw); (go_simp <;> with_reducible rfl))
            try simp only [Act.put, List.setIfInBounds_toArray, List.set_cons_zero, List.set_cons_succ]
            refine tkH (i := 12) (oi := { dst := some 127, op := Go.Op.binOp Go.BinOp.neq 36 (Go.Operand.tmp 126) (Go.Operand.const (Go.Value.int Go.IntKind.i64 140)) 36, type := 4, pos := "outright.go:123", after := #[{ on := 11, ground := Go.Ground.data }, { on := 9, ground := Go.Ground.guard }], guard := some (9, false) }) (v := ?_) rfl ?_ ?_
            rotate_left
            · (intro w hSw; (try dsimp only at hSw); (go_simp <;> with_reducible rfl))
            try simp only [Act.put, List.setIfInBounds_toArray, List.set_cons_zero, List.set_cons_succ]
            refine tkH (i := 13) (oi := { dst := some 128, op := Go.Op.move (Go.Operand.tmp 127), type := 4, pos := "outright.go:123", after := #[{ on := 12, ground := Go.Ground.data }, { on := 9, ground := Go.Ground.chain }, { on := 9, ground := Go.Ground.guard }], guard := some (9, false) }) (v := ?_) rfl ?_ ?_
            rotate_left
            · (intro w hSw; (try dsimp only at hSw); (go_simp <;> with_reducible rfl))
            try simp only [Act.put, List.setIfInBounds_toArray, List.set_cons_zero, List.set_cons_succ]
            refine wpAnyH_take (i := 14) (oi := { dst := some 129, op := Go.Op.fieldAddr 38 (Go.Operand.tmp 19) 2, type := 0, pos := "outright.go:123", after := #[{ on := 13, ground := Go.Ground.guard }], guard := some (13, true) }) (v := undef) rfl (by kernel_rfl) (by kernel_rfl) (by kernel_rfl) (fun _ _ _ h => h) (Or.inr ⟨by rfl, rfl⟩) (by assumption) ?_
            try simp only [Act.put, List.setIfInBounds_toArray, List.set_cons_zero, List.set_cons_succ]
            refine wpAnyH_take (i := 15) (oi := { dst := some 130, op := Go.Op.load 36 (Go.Operand.tmp 129), type := 36, pos := "outright.go:123", after := #[{ on := 14, ground := Go.Ground.data }, { on := 13, ground := Go.Ground.guard }], guard := some (13, true) }) (v := undef) rfl (by kernel_rfl) (by kernel_rfl) (by kernel_rfl) (fun _ _ _ h => h) (Or.inr ⟨by rfl, rfl⟩) (by assumption) ?_
            try simp only [Act.put, List.setIfInBounds_toArray, List.set_cons_zero, List.set_cons_succ]
            refine wpAnyH_take (i := 16) (oi := { dst := some 131, op := Go.Op.binOp Go.BinOp.neq 36 (Go.Operand.tmp 130) (Go.Operand.const (Go.Value.int Go.IntKind.i64 171)) 36, type := 4, pos := "outright.go:123", after := #[{ on := 15, ground := Go.Ground.data }, { on := 13, ground := Go.Ground.guard }], guard := some (13, true) }) (v := undef) rfl (by kernel_rfl) (by kernel_rfl) (by kernel_rfl) (fun _ _ _ h => h) (Or.inr ⟨by rfl, rfl⟩) (by assumption) ?_
            try simp only [Act.put, List.setIfInBounds_toArray, List.set_cons_zero, List.set_cons_succ]
            refine tkH (i := 17) (oi := { dst := some 132, op := Go.Op.pick (Go.Operand.tmp 128) (Go.Operand.tmp 131) (Go.Operand.const (Go.Value.bool false)), type := 4, pos := "outright.go:123", after := #[{ on := 13, ground := Go.Ground.data }, { on := 16, ground := Go.Ground.data }, { on := 9, ground := Go.Ground.guard }], guard := some (9, false) }) (v := ?_) rfl ?_ ?_
            rotate_left
            · (intro w hSw; (try dsimp only at hSw); (go_simp <;> with_reducible rfl))
            try simp only [Act.put, List.setIfInBounds_toArray, List.set_cons_zero, List.set_cons_succ]
            refine tkH (i := 18) (oi := { dst := some 133, op := Go.Op.pick (Go.Operand.tmp 124) (Go.Operand.const (Go.Value.bool true)) (Go.Operand.tmp 132), type := 4, pos := "outright.go:123", after := #[{ on := 9, ground := Go.Ground.data }, { on := 17, ground := Go.Ground.data }], guard := none }) (v := ?_) rfl ?_ ?_
            rotate_left
            · (intro w hSw; (try dsimp only at hSw); (go_simp <;> with_reducible rfl))
            try simp only [Act.put, List.setIfInBounds_toArray, List.set_cons_zero, List.set_cons_succ]
            refine tkH (i := 19) (oi := { dst := some 134, op := Go.Op.move (Go.Operand.tmp 133), type := 4, pos := "outright.go:123", after := #[{ on := 18, ground := Go.Ground.data }, { on := 13, ground := Go.Ground.chain }], guard := none }) (v := ?_) rfl ?_ ?_
            rotate_left
            · (intro w hSw; (try dsimp only at hSw); (go_simp <;> with_reducible rfl))
            try simp only [Act.put, List.setIfInBounds_toArray, List.set_cons_zero, List.set_cons_succ]
            refine tkH (i := 20) (oi := { dst := some 135, op := Go.Op.fieldAddr 38 (Go.Operand.tmp 19) 3, type := 0, pos := "outright.go:123", after := #[{ on := 19, ground := Go.Ground.guard }], guard := some (19, false) }) (v := ?_) rfl ?_ ?_
            rotate_left
            · (intro w hSw; (try dsimp only at hSw); (go_simp <;> with_reducible rfl))
            try simp only [Act.put, List.setIfInBounds_toArray, List.set_cons_zero, List.set_cons_succ]
            refine tkH (i := 21) (oi := { dst := some 136, op := Go.Op.load 23 (Go.Operand.tmp 135), type := 23, pos := "outright.go:123", after := #[{ on := 20, ground := Go.Ground.data }, { on := 19, ground := Go.Ground.guard }], guard := some (19, false) }) (v := ?_) rfl ?_ ?_
            rotate_left
            · (intro w hSw; (try dsimp only at hSw); (go_simp <;> with_reducible rfl))
            try simp only [Act.put, List.setIfInBounds_toArray, List.set_cons_zero, List.set_cons_succ]
            refine tkH (i := 22) (oi := { dst := some 137, op := Go.Op.binOp Go.BinOp.neq 23 (Go.Operand.tmp 136) (Go.Operand.const (Go.Value.int Go.IntKind.u32 0)) 23, type := 4, pos := "outright.go:123", after := #[{ on := 21, ground := Go.Ground.data }, { on := 19, ground := Go.Ground.guard }], guard := some (19, false) }) (v := ?_) rfl ?_ ?_
            rotate_left
            · (intro w hSw; (try dsimp only at hSw); (go_simp <;> with_reducible rfl))
            try simp only [Act.put, List.setIfInBounds_toArray, List.set_cons_zero, List.set_cons_succ]
            refine tkH (i := 23) (oi := { dst := some 138, op := Go.Op.pick (Go.Operand.tmp 134) (Go.Operand.const (Go.Value.bool true)) (Go.Operand.tmp 137), type := 4, pos := "outright.go:123", after := #[{ on := 19, ground := Go.Ground.data }, { on := 22, ground := Go.Ground.data }], guard := none }) (v := ?_) rfl ?_ ?_
            rotate_left
            · (intro w hSw; (try dsimp only at hSw); (go_simp <;> with_reducible rfl))
            try simp only [Act.put, List.setIfInBounds_toArray, List.set_cons_zero, List.set_cons_succ]
            refine tkH (i := 24) (oi := { dst := some 139, op := Go.Op.move (Go.Operand.tmp 138), type := 4, pos := "outright.go:123", after := #[{ on := 23, ground := Go.Ground.data }, { on := 19, ground := Go.Ground.chain }], guard := none }) (v := ?_) rfl ?_ ?_
            rotate_left
            · (intro w hSw; (try dsimp only at hSw); (go_simp <;> with_reducible rfl))
            try simp only [Act.put, List.setIfInBounds_toArray, List.set_cons_zero, List.set_cons_succ]
            refine tkH (i := 25) (oi := { dst := some 140, op := Go.Op.fieldAddr 38 (Go.Operand.tmp 19) 5, type := 0, pos := "outright.go:123", after := #[{ on := 24, ground := Go.Ground.guard }], guard := some (24, false) }) (v := ?_) rfl ?_ ?_
            rotate_left
            · (intro w hSw; (try dsimp only at hSw); (go_simp <;> with_reducible rfl))
            try simp only [Act.put, List.setIfInBounds_toArray, List.set_cons_zero, List.set_cons_succ]
            refine tkH (i := 26) (oi := { dst := some 141, op := Go.Op.load 2 (Go.Operand.tmp 140), type := 2, pos := "outright.go:123", after := #[{ on := 25, ground := Go.Ground.data }, { on := 24, ground := Go.Ground.guard }], guard := some (24, false) }) (v := ?_) rfl ?_ ?_
            rotate_left
            · (intro w hSw; (try dsimp only at hSw); (go_simp <;> with_reducible rfl))
            try simp only [Act.put, List.setIfInBounds_toArray, List.set_cons_zero, List.set_cons_succ]
            refine tkH (i := 27) (oi := { dst := some 142, op := Go.Op.binOp Go.BinOp.neq 2 (Go.Operand.tmp 141) (Go.Operand.const (Go.Value.int Go.IntKind.i64 0)) 2, type := 4, pos := "outright.go:123", after := #[{ on := 26, ground := Go.Ground.data }, { on := 24, ground := Go.Ground.guard }], guard := some (24, false) }) (v := ?_) rfl ?_ ?_
            rotate_left
            · (intro w hSw; (try dsimp only at hSw); (go_simp <;> with_reducible rfl))
            try simp only [Act.put, List.setIfInBounds_toArray, List.set_cons_zero, List.set_cons_succ]
            refine tkH (i := 28) (oi := { dst := some 143, op := Go.Op.pick (Go.Operand.tmp 139) (Go.Operand.const (Go.Value.bool true)) (Go.Operand.tmp 142), type := 4, pos := "outright.go:123", after := #[{ on := 24, ground := Go.Ground.data }, { on := 27, ground := Go.Ground.data }], guard := none }) (v := ?_) rfl ?_ ?_
            rotate_left
            · (intro w hSw; (try dsimp only at hSw); (go_simp <;> with_reducible rfl))
            try simp only [Act.put, List.setIfInBounds_toArray, List.set_cons_zero, List.set_cons_succ]
            refine wpAnyH_done (by kernel_rfl) ?_ _
            refine NoPanic.normal ?_
            go_wp2
            go_roundg (gk - 1)
            case measure => have := HK.out; omega
            case rel => exact ⟨j + 1, by have := HK.out; omega, by rw [← HN1.out, H1.out], by rw [← HN2.out, H2.out], by rw [HN.out], S9.out⟩
      · obtain rfl : j = 40 := by omega
        have hf := found_le S.L 40
        have hs := seats_eq S.L HO.out.one HO.out.st 40 (by have := HSM.out; omega)
        rw [hs]
        have f10 := ans_ten (S := S) tag
        have H10 : Hid (Calls Tryz.prog 6 #[.pointer (some ⟨b, 0, none⟩), .agg #[.int .i64 10, .int .u32 tag, .int .u32 0, .int .i64 0, .int .i64 0]] wr fun e w' => e = .returned (.tuple #[.agg #[Value.int .u32 tag, .int .i64 10, .int .i64 0, .int .u32 0, .int .i64 0, .int .i64 0, .int .i64 (S.L.length : Int)], .int .i64 0]) ∧ GoQ w0 w' w4 S p w4.heap.size (w2.heap.size + 1) ∧ Kept wr w' p.own ∧ KeepsFrom w4.heap.size wr w') := by
          have := HA.out wr ⟨10, tag, 0, 0, 0⟩ (q_ok ⟨⟨by omega, by omega⟩, Htag.out, ⟨by omega, by omega⟩, ⟨by omega, by omega⟩, ⟨by omega, by omega⟩⟩) hS.out.1
          rw [f10] at this
          exact this
        clear f10 hs
        generalize cF (fun i => (fnd S.L i).isSome) 40 = m1 at *
        have hle : decide ((m1 : Int) ≤ (S.L.length : Int)) = true := decide_eq_true (by omega)
        have hle2 : (m1 : Int) ≤ (S.L.length : Int) := by omega
        generalize hSn : S.L.length = Sn at *
        have HSn := hide hSn
        clear hSn hf hL4
        have c3 := C3.out wr hS.out.1
        have c1 := C1.out wr hS.out.1.gr
        go_wp2_with fail
        refine H10.out.mono ?_
        rintro e w5 ⟨rfl, hG5, hk5, hf5⟩
        have hb5 := box_kept hS.out.2.1 hk5 HNN.out.2
        have hD5 := hf5.same _ _ HD.out hS.out.2.2 rfl
        have g6 := grown_alloc w5 (.cells [Value.int .u32 tag, .int .i64 10, .int .i64 0, .int .u32 0, .int .i64 0, .int .i64 0, .int .i64 (Sn : Int)].toArray 38)
        have hG6 := hG5.then g6
        have hb6 : Boxed _ (w2.heap.size + 1) 3 (.int .i64 (Sn : Int)) := box_to hb5 g6
        have hD6 := box_to hD5 g6
        have c1 := C1.out _ hG6.gr
        have c12 := hb6.cell
        obtain ⟨a0, a1, a2, a3, a4, a5, a6⟩ := bx7 (heap_alloc_new w5 (.cells [Value.int .u32 tag, .int .i64 10, .int .i64 0, .int .u32 0, .int .i64 0, .int .i64 0, .int .i64 (Sn : Int)].toArray 38))
        have HS6 := hide (And.intro hG6 hD6)
        clear hG5 hk5 hf5 hb5 hD5 g6 hG6 hb6 hD6 H10 c3
        go_wp2_with fail
        refine (HW.out _ HS6.out.1.gr).mono ?_
        rintro e w9 ⟨rfl, g9⟩
        have hG9 := HS6.out.1.then g9
        have hD9 := box_to HS6.out.2 g9
        have r2 := C2.out _ hG9.gr
        have r2f := free_row r2 0
        have r2c := cell_row r2 0
        have ks := kept_setCell w9 (w.heap.size + 2) 0 (.bool true)
        have HRs : Hid ((w9.setCell ⟨w.heap.size + 2, 0, none⟩ (.bool true)).cell? ⟨w.heap.size + 2, 0, none⟩ = some (.bool true)) := cell_row (row_setCell r2 0 (.bool true)) 0
        have HDs : Hid ((w9.setCell ⟨w.heap.size + 2, 0, none⟩ (.bool true)).heap[D]? = some (.deferred (some []))) := ks.at hD9 (fun e => by have e2 : D = w.heap.size + 2 := e; have := HD.out; have := HZZ.out; omega)
        have HGr : Hid (w.grownBy (w9.setCell ⟨w.heap.size + 2, 0, none⟩ (.bool true)) none) := gn_set (grown_trans HG0.out hG9.gr) (by omega)
        clear hG9 hD9 r2 ks g9 HS6
        go_wp2
        refine ⟨by simp, .inl ⟨_, _, rfl, run_takeDeferred HDs.out, ?_⟩⟩
        refine ⟨_, results_bq rfl _ _ _ _ rfl ?_, rfl, ?_⟩
        · exact ((grownBy_putObj' _ D _).cell HRs.out (fun e => by have e2 : w.heap.size + 2 = D := Option.some.inj e; have := HD.out; have := HZZ.out; omega))
        · exact grown_then HGr.out (grownBy_putObj' _ D _) (fun j e => by cases e; exact Or.inl (by have := HD.out; have := HZZ.out; omega))
end Go.Proofs.YtjfhilignbeboabGreatDoor
