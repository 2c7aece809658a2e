/- BookGoes, walked. -/
import Derived.Test.YtcbiloomnkbalaaGreatDoorJoAx
namespace Go.Proofs.YtcbiloomnkbalaaGreatDoor
open Go.RowKit Go.Shelf
attribute [local go_sem ↓] Go.wp_at_zero Go.wp_at_succ
attribute [local go_sem] Oper.semAt_some
/-- In the midst of the law: the book, whatever was applied to it; all that lay ahead of the range but the book and k. -/
structure GoB (w W w3 : World) (b w1s b1 b2 Bk K : Nat) : Prop where
  bk : ∃ (q : Bp) (S : Sb), q.b = b ∧ BkAt W q S K ∧ S.Ok ∧ q.Lo b1 ∧ ∀ i, q.own i → (w1s ≤ i ∧ i < b1) ∨ b2 ≤ i
  same : ∀ i, i < b2 → (i < w1s ∨ b1 ≤ i) → i ≠ Bk → W.heap[i]? = w3.heap[i]?
  gr : w.grownBy W none
  sz : b2 ≤ W.heap.size
section
variable {w W W' w3 : World} {b w1s b1 b2 Bk K : Nat}
theorem GoB.then (h : GoB w W w3 b w1s b1 b2 Bk K) (g : W.grownBy W' none) : GoB w W' w3 b w1s b1 b2 Bk K := by
  obtain ⟨q, S, e, h1, h2, h3, h4⟩ := h.bk
  exact ⟨⟨q, S, e, h1.then g, h2, h3, h4⟩, fun i hi hs hk => (g.block i (Nat.lt_of_lt_of_le hi h.sz) (by simp)).trans (h.same i hi hs hk), grown_trans h.gr g, Nat.le_trans h.sz g.size⟩
theorem GoB.own_from (h0 : w.heap.size ≤ b2) (h12 : b1 ≤ b2) : OwnFrom b2 (fun (_ : Unit) W => GoB w W w3 b w1s b1 b2 Bk K) := fun _ W W' row h hg hr => by
  obtain ⟨q, S, e, h1, h2, h3, h4⟩ := h.bk
  refine ⟨⟨q, S, e, BkAt.own_from (h3.mono h12) () W W' row h1 hg hr, h2, h3, h4⟩, fun i hi hs hk => (hg.block i (Nat.lt_of_lt_of_le hi h.sz) (fun e => ?_)).trans (h.same i hi hs hk), grown_then h.gr hg (fun j e => Or.inl (Nat.le_trans h0 (hr j e).1)), Nat.le_trans h.sz hg.size⟩
  have := (hr i e.symm).1
  omega
theorem GoB.put (h : GoB w W w3 b w1s b1 b2 Bk K) (h0 : w.heap.size ≤ b1) (hk : b1 ≤ Bk ∧ Bk < b2) (j : Nat) (v : Value) : GoB w (W.setCell ⟨Bk, j, none⟩ v) w3 b w1s b1 b2 Bk K := by
  obtain ⟨q, S, e, h1, h2, h3, h4⟩ := h.bk
  have k := kept_setCell W Bk j v
  refine ⟨⟨q, S, e, h1.far k (fun i hi e2 => ?_), h2, h3, h4⟩, fun i hi hs hkk => (k.block i (Nat.lt_of_lt_of_le hi h.sz) hkk).trans (h.same i hi hs hkk), gn_set h.gr (by omega), Nat.le_trans h.sz k.size⟩
  have e3 : i = Bk := e2
  have := h4 i hi
  omega
/-- What Apply does in its midst. -/
theorem GoB.apply (h : GoB w W w3 b w1s b1 b2 Bk K) (h0 : w.heap.size ≤ w1s) (h12 : b1 ≤ b2) (h1s : w1s ≤ b1) (hK : K ≤ 10000000) (hT : Rk.Tab w) (r : Rc) (hr : r.Ok) : Calls Tryz.prog 36 #[.pointer (some ⟨b, 0, none⟩), Rk.rcV r] W fun e w' => (∃ c, e = .returned (.int .i64 c)) ∧ GoB w w' w3 b w1s b1 b2 Bk (K + 1) ∧ (∀ i, i < b2 → (i < w1s ∨ b1 ≤ i) → w'.heap[i]? = W.heap[i]?) ∧ KeepsFrom b2 W w' := by
  obtain ⟨q, S, e, h1, h2, h3, h4⟩ := h.bk
  have hc := apply_any h1 h2 hK r hr (hT.grown h.gr (by simp))
  rw [e] at hc
  refine hc.mono ?_
  rintro e1 w' ⟨rfl, q', k1, k2⟩
  have hs : ∀ i, i < b2 → (i < w1s ∨ b1 ≤ i) → w'.heap[i]? = W.heap[i]? := fun i hi hs => k2.kept.block i (Nat.lt_of_lt_of_le hi h.sz) (fun e2 => by
    have := h4 i e2
    omega)
  refine ⟨⟨_, rfl⟩, ⟨⟨q', _, k2.b.trans e, k1, h2.app r, k2.lo h3, fun i hi => ?_⟩, fun i hi hz hk => (hs i hi hz).trans (h.same i hi hz hk), ?_, Nat.le_trans h.sz k2.kept.size⟩, hs, k2.keeps h1 (h3.mono h12)⟩
  · rcases k2.own i hi with e2 | e2
    · exact h4 i e2
    · exact .inr (Nat.le_trans h.sz e2)
  · refine Kept.grown (((Kept.new h.gr (fun i => w.heap.size ≤ i)).trans k2.kept (fun i hi e2 => ?_))) (fun i hi e2 => by omega)
    have := h4 i e2
    omega
end
theorem GoB.more {w W w3 : World} {b w1s b1 b2 Bk K K' : Nat} (h : GoB w W w3 b w1s b1 b2 Bk K) (hk : K ≤ K') : GoB w W w3 b w1s b1 b2 Bk K' := by
  obtain ⟨q, S, e, h1, h2⟩ := h.bk
  exact ⟨⟨q, S, e, h1.mono hk, h2⟩, h.same, h.gr, h.sz⟩
theorem box_same {W W' : World} {b : Nat} {t : TypeId} {v : Value} (h : Boxed W b t v) (e : W'.heap[b]? = W.heap[b]?) : Boxed W' b t v := by
  unfold Boxed at *
  rw [e]
  exact h
theorem pre_rd2 {pre X : List Bg} {x : Bg} (h : pre ++ [x] <+: X) : pre.length < X.length ∧ rd X pre.length = x := by
  obtain ⟨t, rfl⟩ := h
  refine ⟨by simp, ?_⟩
  unfold rd
  simp
set_option maxRecDepth 100000 in
set_option maxHeartbeats 64000000 in
theorem goes_any {w : World} {ao : Option Addr} {len cap : Nat} {rs : List Rc} (hl : rs.length = len) (hR : RecsAt w ao rs) (hO : ∀ r ∈ rs, r.Ok) {bo : Option Addr} {bl bc : Nat} {ms : List Rc} (hml : ms.length = bl) (hMR : RecsAt w bo ms) (hMO : ∀ r ∈ ms, r.Ok) (left : Int) (hT : Rk.Tab w) :
    Calls Tryz.prog 8 #[.slice ao len cap, .slice bo bl bc, .int .i64 left] w fun e w' => e = .returned (.bool true) ∧ w.grownBy w' none := by
  have g0 := grown_alloc w (.cells #[.int .i64 left] 3)
  have HT := hide hT
  have HM := hide (And.intro hml (And.intro hMR hMO))
  have HA : Hid (Calls Tryz.prog 9 #[] (w.alloc (.cells #[.int .i64 left] 3)) fun e w' => e = .returned (.bool true) ∧ (w.alloc (.cells #[.int .i64 left] 3)).grownBy w' none) := awake_any _ (hT.grown g0 (by simp))
  have HD : Hid (∀ W, w.grownBy W none → Calls Tryz.prog 25 #[.slice ao len cap] W fun e w' => ∃ b S p, e = .returned (.tuple #[.pointer (some ⟨b, 0, none⟩), .bool true]) ∧ S.Mk ∧ Lk W w' b S 300 p []) := fun W g => made_any hl (hR.grown g) hO (hT.grown g (by simp))
  have HB0 := hide (And.intro (heap_alloc_new w (.cells [Value.int .i64 left].toArray 3)) g0)
  clear hl hR hO hml hMR hMO hT g0
  refine (callsIn_wide (n := 6)).1 (callsIn_of_wp_marks Tryz.func8 rfl trivial ?_ rfl)
  simp only [Tryz.ntmps8, List.size_toArray, List.length_cons, List.length_nil, Nat.reduceAdd, Nat.reduceSub, Array.replicate_succ, Array.replicate_zero, List.push_toArray, List.append_toArray, List.nil_append, List.cons_append]
  refine wpIn_wide.2 ?_
  go_wp2_with fail
  generalize w.alloc (.cells #[.int .i64 left] 3) = w0 at *
  refine HA.out.mono ?_
  clear HA
  rintro e w1 ⟨rfl, hg⟩
  have B1 := hide (And.intro ((hg.block _ (row_lt HB0.out.1) (by simp)).trans HB0.out.1) (grown_trans HB0.out.2 hg))
  have hlt1 : w.heap.size < w1.heap.size := row_lt B1.out.1
  clear hg HB0
  have hd := HD.out w1 B1.out.2
  clear HD
  go_wp2_with fail
  refine hd.mono ?_
  clear hd
  rintro e w2 ⟨b, S, p, rfl, hMk, hLk⟩
  have L2 := hide (And.intro hMk hLk)
  have hz12 := hLk.gr.size
  clear hMk hLk
  have g3 := grown_alloc w2 (.cells #[.pointer (some ⟨b, 0, none⟩)] 31)
  have B3 := hide (heap_alloc_new w2 (.cells [Value.pointer (some ⟨b, 0, none⟩)].toArray 31))
  have L3 := hide (And.intro (L2.out.2.then g3) g3)
  have hall := all_any L3.out.1.bk L2.out.1.1.wk
  rw [L3.out.1.eb] at hall
  have l3 : (w2.alloc (.cells #[.pointer (some ⟨b, 0, none⟩)] 31)).cell? ⟨w2.heap.size, 0, none⟩ = some (.pointer (some ⟨b, 0, none⟩)) := cell_row B3.out 0
  have hz3 : (w2.alloc (.cells #[.pointer (some ⟨b, 0, none⟩)] 31)).heap.size = w2.heap.size + 1 := by simp
  clear g3
  go_wp2_with fail
  generalize w2.alloc (.cells #[.pointer (some ⟨b, 0, none⟩)] 31) = w3 at *
  refine hall.mono ?_
  clear hall l3
  rintro e w4 ⟨u, rfl, hV, g4⟩
  have hL4 : S.L.length ≤ 4096 := by have := L2.out.1.1.wk.few; have := L2.out.1.1.wk.b1; omega
  have htold := told_any hV (by omega)
  obtain ⟨B, so, icap, rfl, hI, hBq⟩ := hV
  have G4 := hide g4
  have I4 := hide (And.intro hI hBq)
  clear g4 hI hBq
  go_wp2_with fail
  refine htold.mono ?_
  clear htold
  rintro e w5 ⟨v, rfl, hr5, g5⟩
  obtain ⟨vo, vcap, rfl, hle5⟩ := Ix.own_form hr5
  have g6 := grown_alloc w5 (.cells #[.slice vo S.L.length vcap] 25)
  have g7 := grown_alloc (w5.alloc (.cells #[.slice vo S.L.length vcap] 25)) (.cells #[.int .i64 0] 3)
  have b6 := heap_alloc_new w5 (.cells [Value.slice vo S.L.length vcap].toArray 25)
  have b7 := heap_alloc_new (w5.alloc (.cells #[.slice vo S.L.length vcap] 25)) (.cells [Value.int .i64 0].toArray 3)
  rw [World.size_alloc] at b7
  have g57 := grown_trans g6 g7
  have g37 := grown_trans (grown_trans G4.out g5) g57
  have z7 : ((w5.alloc (.cells #[.slice vo S.L.length vcap] 25)).alloc (.cells #[.int .i64 0] 3)).heap.size = w5.heap.size + 2 := by simp
  have zz4 := G4.out.size
  have zz5 := g5.size
  have C7 := hide (And.intro ((g7.block _ (row_lt b6) (by simp)).trans b6) (And.intro b7 (And.intro (g37.block _ (row_lt B3.out) (by simp) |>.trans B3.out) ((L2.out.2.gr.block _ (row_lt B1.out.1) (by simp) |>.trans B1.out.1)))))
  have I7 := hide (I4.out.1.grown (grown_trans g5 g57))
  have HQ : Hid (∀ i, vbk B so S.L.length i → w3.heap.size ≤ i ∧ i < w4.heap.size) := fun i hi => ⟨I4.out.2 i hi, I4.out.1.lt i hi⟩
  have R7 := hide (own_keep hr5 g57)
  have KB7 : Hid (Boxed ((w5.alloc (.cells #[.slice vo S.L.length vcap] 25)).alloc (.cells #[.int .i64 0] 3)) (w5.heap.size + 1) 3 (.int .i64 (([] : List Bg).length : Int))) := b7
  have LB7 := hide ((grown_trans L3.out.1.gr g37).block _ (row_lt B1.out.1) (by simp) |>.trans B1.out.1)
  have hRow : Hid (∀ i, (Value.slice vo S.L.length vcap).ownBlock = some i → w4.heap.size ≤ i ∧ i < w5.heap.size) := fun i hi => by obtain ⟨h1, cur, hc⟩ := Ix.own_block hr5 hi; exact ⟨h1, row_lt hc⟩
  have hlo : p.Lo w2.heap.size := ⟨L2.out.2.bk.lt _ ⟨6, Bp.r6 (.inr (.inr (.inr rfl)))⟩, L2.out.2.bk.lt _ ⟨7, Bp.r7⟩⟩
  have I0 : Hid (GoB w ((w5.alloc (.cells #[.slice vo S.L.length vcap] 25)).alloc (.cells #[.int .i64 0] 3)) ((w5.alloc (.cells #[.slice vo S.L.length vcap] 25)).alloc (.cells #[.int .i64 0] 3)) b w1.heap.size w2.heap.size (w5.heap.size + 2) (w5.heap.size + 1) 300) :=
    ⟨⟨p, S, L2.out.2.eb, L3.out.1.bk.then g37, L2.out.1.1, hlo, fun i hi => .inl ⟨L2.out.2.own i hi, L2.out.2.bk.lt i hi⟩⟩, fun _ _ _ _ => rfl, grown_trans B1.out.2 (grown_trans L3.out.1.gr g37), by rw [z7]; exact Nat.le_refl _⟩
  have HL := hide (And.intro hle5 L2.out.1.1)
  clear hr5 g5 g6 g7 b6 b7 g57 g37 hlo L2 L3 B1 B3 I4 G4
  go_wp2
  generalize (w5.alloc (.cells #[.slice vo S.L.length vcap] 25)).alloc (.cells #[.int .i64 0] 3) = w7 at *
  rw [← z7] at I0
  have HZ : Hid (w.heap.size ≤ w1.heap.size ∧ w2.heap.size ≤ w7.heap.size ∧ w1.heap.size ≤ w2.heap.size) := ⟨by omega, by omega, by omega⟩
  have HZ0 : Hid (w.heap.size ≤ w7.heap.size) := by unfold Hid; omega
  have HLN := hide hL4
  have hsame : ∀ W K, GoB w W w7 b w1.heap.size w2.heap.size w7.heap.size (w5.heap.size + 1) K → ∀ i, i < w5.heap.size + 1 → w2.heap.size ≤ i → W.heap[i]? = w7.heap[i]? := fun W K h i hi h2 => h.same i (by omega) (.inr h2) (by omega)
  have HC7 : Hid (∀ W K, GoB w W w7 b w1.heap.size w2.heap.size w7.heap.size (w5.heap.size + 1) K → W.cell? ⟨w2.heap.size, 0, none⟩ = some (.pointer (some ⟨b, 0, none⟩))) := fun W K h => cell_row ((hsame W K h w2.heap.size (by omega) (Nat.le_refl _)).trans C7.out.2.2.1) 0
  have HC10 : Hid (∀ W K, GoB w W w7 b w1.heap.size w2.heap.size w7.heap.size (w5.heap.size + 1) K → W.cell? ⟨w5.heap.size, 0, none⟩ = some (.slice vo S.L.length vcap)) := fun W K h => cell_row ((hsame W K h w5.heap.size (by omega) (by omega)).trans C7.out.1) 0
  have HC5 : Hid (∀ W K, GoB w W w7 b w1.heap.size w2.heap.size w7.heap.size (w5.heap.size + 1) K → W.cell? ⟨w.heap.size, 0, none⟩ = some (.int .i64 left)) := fun W K h => cell_row ((h.same w.heap.size (by omega) (.inl hlt1) (by omega)).trans LB7.out) 0
  have HVl : Hid (∀ W K, GoB w W w7 b w1.heap.size w2.heap.size w7.heap.size (w5.heap.size + 1) K → VlV W w2.heap.size (.func (.func 82) #[] #[.pointer (some ⟨B, 0, none⟩)]) S.L) := fun W K h => ⟨B, so, icap, rfl, I7.out.keep ⟨by have := h.sz; omega, fun i hi hl => hsame W K h i (by have := (HQ.out i hi).2; omega) (by have := (HQ.out i hi).1; omega)⟩, fun i hi => by have := (HQ.out i hi).1; omega⟩
  have HWas : Hid (∀ W K, GoB w W w7 b w1.heap.size w2.heap.size w7.heap.size (w5.heap.size + 1) K → BgA W (.slice vo S.L.length vcap) S.L) := fun W K h => by
    have hr := R7.out
    refine BgA.own (X := S.L) (b := w4.heap.size) ?_
    exact Ix.row_keep hr (fun q hq => hsame W K h q (by have := (hRow.out q hq).2; omega) (by have := (hRow.out q hq).1; omega))
  clear hsame C7 R7 hRow LB7
  refine (wpIn_wide (n := 6)).1 (wpIn_range_V (w := w7) rfl (by decide) (gf := 82) (lb := #[.pointer (some ⟨B, 0, none⟩)]) rfl trivial (enters_of Tryz.func82 (by kernel_rfl) rfl)
    (encs := encB) (Kp := KpB (vbk B so S.L.length)) (V := fun pre x _ => pre ++ [x] <+: S.L) (S := fun ys => ys = S.L)
    (fun W hW => vt_seqV 5 (by decide) B so icap S.L (by omega) W (I7.out.grown hW))
    (fun h k => h.trans k) (fun W l o hl => KpB.put (fun hq => by have := (HQ.out l hq).2; omega)) (fun W W' _ hg => KpB.new hg) (fun _ => rfl)
    (fun pre => fun _ _ _ _ h _ _ => h)
    (fun pre W => GoB w W w7 b w1.heap.size w2.heap.size w7.heap.size (w5.heap.size + 1) (300 + pre.length) ∧ Boxed W (w5.heap.size + 1) 3 (.int .i64 (pre.length : Int)))
    (fun c pre W => c = .exit 0 ∧ pre.length ≤ S.L.length ∧ GoB w W w7 b w1.heap.size w2.heap.size w7.heap.size (w5.heap.size + 1) (300 + pre.length))
    (fun pre W W' row h hg hr => ⟨GoB.own_from HZ0.out HZ.out.2.1 () W W' row h.1 hg hr, box_own_from _ () W W' row h.2 hg hr⟩) (fun c pre W W' row h hg hr => ⟨h.1, h.2.1, GoB.own_from HZ0.out HZ.out.2.1 () W W' row h.2.2 hg hr⟩) ⟨I0.out, KB7.out⟩
    (fun x a' W => ∃ F, a' = { tmps := #[Value.slice ao len cap, Value.slice bo bl bc, Value.int IntKind.i64 left, undef, undef, Value.pointer (some ⟨w.heap.size, 0, none⟩), Value.bool false, Value.pointer (some ⟨w2.heap.size, 0, none⟩), Value.bool true, Value.func (Fn.func 82) #[] #[Value.pointer (some ⟨B, 0, none⟩)], Value.pointer (some ⟨w5.heap.size, 0, none⟩), Value.bool true, Value.pointer (some ⟨w5.heap.size + 1, 0, none⟩), Value.pointer (some ⟨F, 0, none⟩), undef, undef, undef, Value.bool true, Value.bool false, Value.tuple #[Value.pointer (some ⟨b, 0, none⟩), Value.bool true], Value.slice ao len cap, Value.tuple #[Value.pointer (some ⟨b, 0, none⟩), Value.bool true], Value.pointer (some ⟨b, 0, none⟩), Value.bool true, Value.bool true, Value.bool false, Value.pointer (some ⟨b, 0, none⟩), Value.func (Fn.func 82) #[] #[Value.pointer (some ⟨B, 0, none⟩)], Value.tuple #[Value.slice vo S.L.length vcap, Value.bool true], Value.func (Fn.func 82) #[] #[Value.pointer (some ⟨B, 0, none⟩)], Value.tuple #[Value.slice vo S.L.length vcap, Value.bool true], Value.slice vo S.L.length vcap, Value.bool true, Value.func (Fn.func 82) #[] #[Value.pointer (some ⟨B, 0, none⟩)], bgV x, undef, undef, undef, undef, undef, undef, undef, undef, undef, undef, undef, undef, undef, undef, undef, undef, undef, undef, undef, undef, undef, undef, undef, undef, undef, undef, undef, undef, undef, undef, undef, undef, undef, undef, undef, undef, undef, undef, undef, undef, undef, undef, undef, undef, undef, undef, undef, undef, undef, undef, undef], defers := [] } ∧ W.heap[F]? = some (.cells (bgc x).toArray 78 (0, 0)))
    (fun x => fun a' W W' row h hg hr => by obtain ⟨F, h1, h2⟩ := h; exact ⟨F, h1, cells_own_from w7.heap.size () W W' row h2 hg hr⟩) ?assign ?body ?done ?stop)
  case assign =>
    rintro l pre ⟨xi, xs, xu⟩ W K hI hV hK
    simp only [encB, bgV]
    gi_wp2
    exact hK _ _ (grown_alloc W _) ⟨W.heap.size, rfl, heap_alloc_new W _⟩
  case body =>
    rintro l pre ⟨xi, xs, xu⟩ a' W ⟨hG, hKb⟩ hV ⟨F, rfl, hF⟩
    obtain ⟨hpl, hrd⟩ := pre_rd2 hV
    obtain ⟨ao', cap', he, hx⟩ := (HWas.out W _ hG).ex
    cases he
    obtain ⟨gg, rfl, q0, q1, q2⟩ := hx pre.length hpl
    rw [hrd] at q0 q1 q2
    simp only at q0 q1 q2
    have hxm : (⟨xi, xs, xu⟩ : Bg) ∈ S.L := hV.subset (by simp)
    have hxi := HL.out.2.wk.id _ hxm
    have hn1 := HL.out.2.wk.n1
    have c5 := HC5.out W _ hG
    have c10 := HC10.out W _ hG
    have c12 := hKb.cell
    obtain ⟨f0, f1, f2, -⟩ := box3 hF
    have hG0 := hide (And.intro hG (And.intro hKb hF))
    have hln : (pre ++ [(⟨xi, xs, xu⟩ : Bg)]).length = pre.length + 1 := by simp
    have hlen : (pre.length : Int) < (S.L.length : Int) := by omega
    have hle0 : (0 : Int) ≤ (pre.length : Int) := by omega
    have hge : decide ((S.L.length : Int) ≤ (pre.length : Int)) = false := decide_eq_false (by omega)
    obtain ⟨NM, hNM⟩ : ∃ NM : Int, NM = ((pre.length + 1 : Nat) : Int) := ⟨_, rfl⟩
    have hwr : IntKind.i64.wrap ((pre.length : Int) + 1) = NM := by rw [IntKind.wrap_i64]; omega
    have HNM := hide hNM
    clear hNM
    have HXI : Hid (xi < 4294967296) := by unfold Hid; simp only at hxi; omega
    clear hG hKb hF hV hx hrd hxm hxi hn1
    by_cases hle : (pre.length : Int) = left
    · have z1 : ((pre.length : Int) == left) = true := by simpa using hle
      have z2 : decide ((pre.length : Int) = left) = true := decide_eq_true hle
      have HE : Hid (∀ q a', ownPostG w7.heap.size (KpB (vbk B so S.L.length)) (fun pre W => GoB w W w7 b w1.heap.size w2.heap.size w7.heap.size (w5.heap.size + 1) (300 + pre.length) ∧ Boxed W (w5.heap.size + 1) 3 (.int .i64 (pre.length : Int))) (fun c pre W => c = .exit 0 ∧ pre.length ≤ S.L.length ∧ GoB w W w7 b w1.heap.size w2.heap.size w7.heap.size (w5.heap.size + 1) (300 + pre.length)) (pre ++ [⟨xi, xs, xu⟩]) W (.exit 0) a' (W.drewN q)) := fun q a' => ⟨⟨Nat.le_refl _, fun _ _ _ h _ => h⟩, rfl, by rw [hln]; omega, by rw [hln]; exact ((hG0.out.1.then (grown_drewN W q none)).more (by omega))⟩
      clear hle
      gi_wp2_with fail
      refine wpIn_round_quiet (by kernel_rfl) (by kernel_rfl) (by kernel_rfl) (by rintro ⟨_, _, h⟩; exact h) ?_
      repeat (quiet_step (fail))
      refine wpQuiet_nil ?_
      intro _ hw'
      obtain ⟨nq, hw''⟩ := hw'
      subst hw''
      gi_wp2
      exact HE.out _ _
    · have z1 : ((pre.length : Int) == left) = false := by simpa using hle
      have z2 : decide ((pre.length : Int) = left) = false := decide_eq_false hle
      clear hle
      gi_wp2_with fail
      refine wpIn_round_quiet (by kernel_rfl) (by kernel_rfl) (by kernel_rfl) (by rintro ⟨_, _, h⟩; exact h) ?_
      repeat (quiet_step (fail))
      refine wpQuiet_nil ?_
      intro _ hw'
      obtain ⟨nq, hw''⟩ := hw'
      subst hw''
      have gq := grown_drewN W nq none
      have hG2 := hG0.out.1.then gq
      have hK2 : Boxed (W.drewN nq) (w5.heap.size + 1) 3 (.int .i64 (pre.length : Int)) := hG0.out.2.1
      have hF2 : (W.drewN nq).heap[F]? = some (.cells (bgc ⟨xi, xs, xu⟩).toArray 78 (0, 0)) := hG0.out.2.2
      have c12 := hK2.cell
      have c12f := hK2.frozen
      have hG3 := hG2.put (by omega) ⟨by omega, by omega⟩ 0 (.int .i64 NM)
      have hFne : F ≠ w5.heap.size + 1 := fun e => by
        have h1 : (W.drewN nq).heap[w5.heap.size + 1]? = some (.cells #[.int .i64 (pre.length : Int)] 3 (0, 0)) := hK2
        rw [← e, hF2] at h1
        simp at h1
      have hF3 := ((kept_setCell (W.drewN nq) (w5.heap.size + 1) 0 (.int .i64 NM)).at hF2 hFne)
      obtain ⟨f0, f1, f2, -⟩ := box3 hF3
      have c7 := HC7.out _ _ hG3
      have hK3 := hK2.set (.int .i64 NM)
      have hcall := hG3.apply HZ.out.1 HZ.out.2.1 HZ.out.2.2 (by have := HLN.out; omega) HT.out ⟨3, (xi : Int), 0, 0, 0⟩ ⟨by simp only; omega, by simp only; omega, by simp only; omega, by simp only; have := HXI.out; omega, by simp only; omega, by simp only; omega, by simp only; omega, by simp only; omega, by simp only; omega, by simp only; omega⟩
      have HCall : Hid (Calls Tryz.prog 36 #[.pointer (some ⟨b, 0, none⟩), .agg #[.int .i64 3, .int .u32 (xi : Int), .int .i64 0, .int .i64 0, .int .i64 0]] ((W.drewN nq).setCell ⟨w5.heap.size + 1, 0, none⟩ (.int .i64 NM)) fun e w' => (∃ c, e = .returned (.int .i64 c)) ∧ ∀ a', ownPostG w7.heap.size (KpB (vbk B so S.L.length)) (fun pre W => GoB w W w7 b w1.heap.size w2.heap.size w7.heap.size (w5.heap.size + 1) (300 + pre.length) ∧ Boxed W (w5.heap.size + 1) 3 (.int .i64 (pre.length : Int))) (fun c pre W => c = .exit 0 ∧ pre.length ≤ S.L.length ∧ GoB w W w7 b w1.heap.size w2.heap.size w7.heap.size (w5.heap.size + 1) (300 + pre.length)) (pre ++ [⟨xi, xs, xu⟩]) W .normal a' w') := by
        refine hcall.mono ?_
        rintro e w' ⟨hc, hG4, hs4, hk4⟩
        have hsz := hG0.out.1.sz
        refine ⟨hc, fun a' => ⟨⟨by have := hk4.size; simpa using this, fun k o hk ho hcc => hk4.same k o hk ((kept_setCell (W.drewN nq) (w5.heap.size + 1) 0 _).at (show (W.drewN nq).heap[k]? = some o from ho) (by omega)) hcc⟩, ⟨by have := hk4.size; simpa using this, fun i hi hl => ?_⟩, ?_, ?_⟩⟩
        · have h1 := HQ.out i hi
          refine (hs4 i (by omega) (.inr (by omega))).trans ?_
          exact (kept_setCell (W.drewN nq) (w5.heap.size + 1) 0 _).block i hl (by omega)
        · rw [hln]; exact hG4
        · rw [hln, ← HNM.out]
          exact box_same hK3 (hs4 _ (by omega) (.inr (by omega)))
      have gq2 := gq.size
      clear hG2 hF2 hF3 hG3 hK3 hFne hcall gq gq2 hK2 hG0 q0 q1 q2 z1 z2 c5 c10
      gi_wp2
      refine ⟨trivial, ?_⟩
      refine (CallsIn.inRound l (callsIn_wide.2 HCall.out)).mono ?_
      rintro e w' ⟨⟨cc, rfl⟩, hz⟩
      have HZZ := hide hz
      clear hz HCall
      gi_wp2
      exact HZZ.out _
  case done =>
    rintro D ys W hD rfl ⟨hG, hKb⟩ hDf
    clear hKb
    have G9 := hide hG
    have D9 := hide hDf
    clear hG hDf
    obtain ⟨m, hm1, hm2, hm3⟩ : ∃ m, m ≤ bl ∧ m ≤ 300 ∧ (m = bl ∨ m = 300) := ⟨min bl 300, by omega, by omega, by omega⟩
    go_wp2
    go_loopg [14] m (fun kk i wr => ∃ j : Nat, kk + j = m ∧ i = .int .i64 (j : Int) ∧ GoB w wr w7 b w1.heap.size w2.heap.size w7.heap.size (w5.heap.size + 1) ((300 + S.L.length) + j) ∧ wr.heap[D]? = some (.deferred (some [])))
    case atStart => exact ⟨0, by omega, rfl, G9.out, D9.out⟩
    case round =>
      clear G9 D9
      obtain ⟨j, hkj, rfl, hG, hD9⟩ := hrel
      have GJ := hide (And.intro hG hD9)
      have l7 : wr.cell? ⟨w2.heap.size, 0, none⟩ = some (.pointer (some ⟨b, 0, none⟩)) := HC7.out wr _ hG
      clear hG hD9
      by_cases hk : 0 < gk
      · have h1 : (0 : Int) ≤ (j : Int) := by omega
        have h2 : (j : Int) < (bl : Int) := by omega
        have h3 : (j : Int) < 300 := by omega
        obtain ⟨r, hr⟩ : ∃ r, ms[j]? = some r := ⟨ms[j]'(by have := HM.out.1; omega), List.getElem?_eq_getElem _⟩
        obtain ⟨rb, off, rfl, c0, c1, c2, c3, c4⟩ := HM.out.2.1 j r hr
        have HR := hide (HM.out.2.2 r (List.mem_of_getElem? hr))
        have gw := GJ.out.1.gr
        have e0 := gw.cell c0 (by simp)
        have e1 := gw.cell c1 (by simp)
        have e2 := gw.cell c2 (by simp)
        have e3 := gw.cell c3 (by simp)
        have e4 := gw.cell c4 (by simp)
        have HRc := hide (And.intro c0 (And.intro c1 (And.intro c2 (And.intro c3 c4))))
        clear hr c0 c1 c2 c3 c4 gw
        have HAp : Hid (Calls Tryz.prog 36 #[.pointer (some ⟨b, 0, none⟩), Rk.rcV r] wr.drew fun e w' => (∃ c, e = .returned (.int .i64 c)) ∧ GoB w w' w7 b w1.heap.size w2.heap.size w7.heap.size (w5.heap.size + 1) ((300 + S.L.length) + (j + 1)) ∧ w'.heap[D]? = some (.deferred (some []))) := by
          refine ((GJ.out.1.then (grown_drew wr none)).apply HZ.out.1 HZ.out.2.1 HZ.out.2.2 (by have := HLN.out; omega) HT.out r HR.out).mono ?_
          rintro e w' ⟨hc, hG, hs, hk⟩
          exact ⟨hc, hG, hk.same _ _ hD (by exact GJ.out.2) rfl⟩
        obtain ⟨rk, ri, rs', ru, rc⟩ := r
        unfold Rk.rcV at HAp
        simp only at e0 e1 e2 e3 e4 HAp HRc
        have hK0 : wr.drew.cell? ⟨w2.heap.size, 0, none⟩ = some (.pointer (some ⟨b, 0, none⟩)) ∧ wr.drew.cell? ⟨rb, off + j * 5, none⟩ = some (.int .i64 rk) ∧ wr.drew.cell? ⟨rb, off + j * 5 + 1, none⟩ = some (.int .u32 ri) ∧ wr.drew.cell? ⟨rb, off + j * 5 + 2, none⟩ = some (.int .i64 rs') ∧ wr.drew.cell? ⟨rb, off + j * 5 + 3, none⟩ = some (.int .i64 ru) ∧ wr.drew.cell? ⟨rb, off + j * 5 + 4, none⟩ = some (.int .i64 rc) := ⟨l7, e0, e1, e2, e3, e4⟩
        go_wp2_with fail
        go_region_held3 (fun W => W.cell? ⟨w2.heap.size, 0, none⟩ = some (.pointer (some ⟨b, 0, none⟩)) ∧ W.cell? ⟨rb, off + j * 5, none⟩ = some (.int .i64 rk) ∧ W.cell? ⟨rb, off + j * 5 + 1, none⟩ = some (.int .u32 ri) ∧ W.cell? ⟨rb, off + j * 5 + 2, none⟩ = some (.int .i64 rs') ∧ W.cell? ⟨rb, off + j * 5 + 3, none⟩ = some (.int .i64 ru) ∧ W.cell? ⟨rb, off + j * 5 + 4, none⟩ = some (.int .i64 rc)) (first | with_reducible assumption | exact hK0) ((first | (go_at_call 36; refine HAp.out.mono ?_; rintro e w9 ⟨⟨cc, rfl⟩, hG', hD'⟩; have hK9 := And.intro (HC7.out w9 _ hG') (And.intro (hG'.gr.cell HRc.out.1 (by simp)) (And.intro (hG'.gr.cell HRc.out.2.1 (by simp)) (And.intro (hG'.gr.cell HRc.out.2.2.1 (by simp)) (And.intro (hG'.gr.cell HRc.out.2.2.2.1 (by simp)) (hG'.gr.cell HRc.out.2.2.2.2 (by simp)))))))))
        clear hK0 hK9
        have GN := hide (And.intro hG' hD')
        clear hG' hD' HAp e0 e1 e2 e3 e4 l7
        go_wp2
        go_roundg (gk - 1)
        case measure => omega
        case rel => exact ⟨j + 1, by omega, by go_num, GN.out.1, GN.out.2⟩
      · have hj : j = m := by omega
        subst hj
        have hVl := HVl.out wr _ GJ.out.1
        have ht := told_any hVl (by omega)
        have l10 : wr.cell? ⟨w5.heap.size, 0, none⟩ = some (.slice vo S.L.length vcap) := HC10.out wr _ GJ.out.1
        clear hVl
        have hend : (j : Int) < (bl : Int) ∧ ¬ (j : Int) < 300 ∨ ¬ (j : Int) < (bl : Int) := by omega
        rcases hend with ⟨q1, q2⟩ | q1
        all_goals
          go_wp2_with fail
          refine ht.mono ?_
          rintro e w9 ⟨v9, rfl, hr9, g9⟩
          have hsm := sameBk_any (BgA.own hr9) ((HWas.out wr _ GJ.out.1).then g9) (by omega)
          rw [decide_eq_true rfl] at hsm
          have l11 := g9.cell l10 (by simp)
          have GE := hide (And.intro ((GJ.out.1.then g9).gr) ((g9.block _ (row_lt GJ.out.2) (by simp)).trans GJ.out.2))
          obtain ⟨vo9, vcap9, rfl, -⟩ := Ix.own_form hr9
          clear hr9 g9 l10 l7
          go_wp2_with fail
          refine hsm.mono ?_
          rintro e wz ⟨rfl, gz⟩
          have hDz := (gz.block _ (row_lt GE.out.2) (by simp)).trans GE.out.2
          have GZ := hide (grown_trans GE.out.1 gz)
          have DZ := hide hDz
          clear gz hDz GE l11
          go_wp2
          refine ⟨by simp, .inl ⟨_, _, rfl, run_takeDeferred DZ.out, ?_⟩⟩
          refine ⟨_, results_tmp rfl _ _ _, rfl, ?_⟩
          exact grown_then GZ.out (grownBy_putObj' _ D _) (fun j e => by cases e; exact Or.inl (by have := HZ0.out; omega))
  case stop =>
    rintro D c pre W hD ⟨rfl, hpl9, hG⟩ hDf
    have G9 := hide hG
    have D9 := hide hDf
    clear hG hDf
    obtain ⟨m, hm1, hm2, hm3⟩ : ∃ m, m ≤ bl ∧ m ≤ 300 ∧ (m = bl ∨ m = 300) := ⟨min bl 300, by omega, by omega, by omega⟩
    refine wpIn_wide.2 ?_
    go_wp2
    go_loopg [14] m (fun kk i wr => ∃ j : Nat, kk + j = m ∧ i = .int .i64 (j : Int) ∧ GoB w wr w7 b w1.heap.size w2.heap.size w7.heap.size (w5.heap.size + 1) ((300 + pre.length) + j) ∧ wr.heap[D]? = some (.deferred (some [])))
    case atStart => exact ⟨0, by omega, rfl, G9.out, D9.out⟩
    case round =>
      clear G9 D9
      obtain ⟨j, hkj, rfl, hG, hD9⟩ := hrel
      have GJ := hide (And.intro hG hD9)
      have l7 : wr.cell? ⟨w2.heap.size, 0, none⟩ = some (.pointer (some ⟨b, 0, none⟩)) := HC7.out wr _ hG
      clear hG hD9
      by_cases hk : 0 < gk
      · have h1 : (0 : Int) ≤ (j : Int) := by omega
        have h2 : (j : Int) < (bl : Int) := by omega
        have h3 : (j : Int) < 300 := by omega
        obtain ⟨r, hr⟩ : ∃ r, ms[j]? = some r := ⟨ms[j]'(by have := HM.out.1; omega), List.getElem?_eq_getElem _⟩
        obtain ⟨rb, off, rfl, c0, c1, c2, c3, c4⟩ := HM.out.2.1 j r hr
        have HR := hide (HM.out.2.2 r (List.mem_of_getElem? hr))
        have gw := GJ.out.1.gr
        have e0 := gw.cell c0 (by simp)
        have e1 := gw.cell c1 (by simp)
        have e2 := gw.cell c2 (by simp)
        have e3 := gw.cell c3 (by simp)
        have e4 := gw.cell c4 (by simp)
        have HRc := hide (And.intro c0 (And.intro c1 (And.intro c2 (And.intro c3 c4))))
        clear hr c0 c1 c2 c3 c4 gw
        have HAp : Hid (Calls Tryz.prog 36 #[.pointer (some ⟨b, 0, none⟩), Rk.rcV r] wr.drew fun e w' => (∃ c, e = .returned (.int .i64 c)) ∧ GoB w w' w7 b w1.heap.size w2.heap.size w7.heap.size (w5.heap.size + 1) ((300 + pre.length) + (j + 1)) ∧ w'.heap[D]? = some (.deferred (some []))) := by
          refine ((GJ.out.1.then (grown_drew wr none)).apply HZ.out.1 HZ.out.2.1 HZ.out.2.2 (by have := HLN.out; have := hpl9; omega) HT.out r HR.out).mono ?_
          rintro e w' ⟨hc, hG, hs, hk⟩
          exact ⟨hc, hG, hk.same _ _ hD (by exact GJ.out.2) rfl⟩
        obtain ⟨rk, ri, rs', ru, rc⟩ := r
        unfold Rk.rcV at HAp
        simp only at e0 e1 e2 e3 e4 HAp HRc
        have hK0 : wr.drew.cell? ⟨w2.heap.size, 0, none⟩ = some (.pointer (some ⟨b, 0, none⟩)) ∧ wr.drew.cell? ⟨rb, off + j * 5, none⟩ = some (.int .i64 rk) ∧ wr.drew.cell? ⟨rb, off + j * 5 + 1, none⟩ = some (.int .u32 ri) ∧ wr.drew.cell? ⟨rb, off + j * 5 + 2, none⟩ = some (.int .i64 rs') ∧ wr.drew.cell? ⟨rb, off + j * 5 + 3, none⟩ = some (.int .i64 ru) ∧ wr.drew.cell? ⟨rb, off + j * 5 + 4, none⟩ = some (.int .i64 rc) := ⟨l7, e0, e1, e2, e3, e4⟩
        go_wp2_with fail
        go_region_held3 (fun W => W.cell? ⟨w2.heap.size, 0, none⟩ = some (.pointer (some ⟨b, 0, none⟩)) ∧ W.cell? ⟨rb, off + j * 5, none⟩ = some (.int .i64 rk) ∧ W.cell? ⟨rb, off + j * 5 + 1, none⟩ = some (.int .u32 ri) ∧ W.cell? ⟨rb, off + j * 5 + 2, none⟩ = some (.int .i64 rs') ∧ W.cell? ⟨rb, off + j * 5 + 3, none⟩ = some (.int .i64 ru) ∧ W.cell? ⟨rb, off + j * 5 + 4, none⟩ = some (.int .i64 rc)) (first | with_reducible assumption | exact hK0) ((first | (go_at_call 36; refine HAp.out.mono ?_; rintro e w9 ⟨⟨cc, rfl⟩, hG', hD'⟩; have hK9 := And.intro (HC7.out w9 _ hG') (And.intro (hG'.gr.cell HRc.out.1 (by simp)) (And.intro (hG'.gr.cell HRc.out.2.1 (by simp)) (And.intro (hG'.gr.cell HRc.out.2.2.1 (by simp)) (And.intro (hG'.gr.cell HRc.out.2.2.2.1 (by simp)) (hG'.gr.cell HRc.out.2.2.2.2 (by simp)))))))))
        clear hK0 hK9
        have GN := hide (And.intro hG' hD')
        clear hG' hD' HAp e0 e1 e2 e3 e4 l7
        go_wp2
        go_roundg (gk - 1)
        case measure => omega
        case rel => exact ⟨j + 1, by omega, by go_num, GN.out.1, GN.out.2⟩
      · have hj : j = m := by omega
        subst hj
        have hVl := HVl.out wr _ GJ.out.1
        have ht := told_any hVl (by omega)
        have l10 : wr.cell? ⟨w5.heap.size, 0, none⟩ = some (.slice vo S.L.length vcap) := HC10.out wr _ GJ.out.1
        clear hVl
        have hend : (j : Int) < (bl : Int) ∧ ¬ (j : Int) < 300 ∨ ¬ (j : Int) < (bl : Int) := by omega
        rcases hend with ⟨q1, q2⟩ | q1
        all_goals
          go_wp2_with fail
          refine ht.mono ?_
          rintro e w9 ⟨v9, rfl, hr9, g9⟩
          have hsm := sameBk_any (BgA.own hr9) ((HWas.out wr _ GJ.out.1).then g9) (by omega)
          rw [decide_eq_true rfl] at hsm
          have l11 := g9.cell l10 (by simp)
          have GE := hide (And.intro ((GJ.out.1.then g9).gr) ((g9.block _ (row_lt GJ.out.2) (by simp)).trans GJ.out.2))
          obtain ⟨vo9, vcap9, rfl, -⟩ := Ix.own_form hr9
          clear hr9 g9 l10 l7
          go_wp2_with fail
          refine hsm.mono ?_
          rintro e wz ⟨rfl, gz⟩
          have hDz := (gz.block _ (row_lt GE.out.2) (by simp)).trans GE.out.2
          have GZ := hide (grown_trans GE.out.1 gz)
          have DZ := hide hDz
          clear gz hDz GE l11
          go_wp2
          refine ⟨by simp, .inl ⟨_, _, rfl, run_takeDeferred DZ.out, ?_⟩⟩
          refine ⟨_, results_tmp rfl _ _ _, rfl, ?_⟩
          exact grown_then GZ.out (grownBy_putObj' _ D _) (fun j e => by cases e; exact Or.inl (by have := HZ0.out; omega))
end Go.Proofs.YtcbiloomnkbalaaGreatDoor
