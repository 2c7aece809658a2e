/- Texts joined: BkI. -/
import Derived.Test.YtcbiloomnkbalaaGreatDoorJoAs
import Derived.RangeFuncWrites
/- All bookings, gathered. -/
namespace Go.Proofs.YtcbiloomnkbalaaGreatDoor
open Go.RowKit Go.Shelf
attribute [local go_sem ↓] Go.wp_at_zero Go.wp_at_succ
attribute [local go_sem] Oper.semAt_some
/-- append, as one step of a region that draws, by its run. -/
theorem step_append_run {P : Program} {ops : Array Oper} {o : Oper} {a : Act} {w : World} {K : Act → World → Prop} {Q : Exit → Act → World → Prop} {E : Prop} (hg : o.guard = none) (s x : Operand) (t : TypeId) (hop : o.op = Op.call { callee := Callee.builtin Builtin.append, args := #[s, x], argTypes := #[t, t] })
    (v u : Value) (hs : a.eval s = v) (hx : a.eval x = u) {v' : Value} {w' : World} (hrun : ∀ ty, (Builtin.append_ #[t, t] ty #[v, u]).run P w = .ok v' w') (hK : K (a.put o.dst v') w') :
    if Region.wanted o (yielded ops a.tmps) = true then Oper.wp P o a w K Q else E := by
  have hw : Region.wanted o (yielded ops a.tmps) = true := by simp [Region.wanted, hg]
  rw [if_pos hw]
  have hr := hrun o.type
  unfold Oper.wp
  simp [execOp, hop, resolve, invoke, builtin, hs, hx, hr, Result.andThen]
  exact hK
theorem box_app {W w1 : World} {B0 B sz : Nat} {t e : TypeId} {v v' : Value} {k m : Nat} {xs ys : List Value} {tmp : Obj}
    (hv : Boxed W B t v) (hte : t ≠ e) (hrow : W.ownsRow B0 e sz v k xs) (hown' : w1.ownsRow B0 e sz v' m ys) (hgrow : (W.alloc tmp).grownBy w1 v.ownBlock) :
    Boxed w1 B t v ∧ Boxed (w1.setCell ⟨B, 0, none⟩ v') B t v' ∧ (w1.setCell ⟨B, 0, none⟩ v').ownsRow B0 e sz v' m ys ∧ KeepsOthers W (w1.setCell ⟨B, 0, none⟩ v') ∧ Kept W w1 (fun i => v.ownBlock = some i) ∧ Kept W (w1.setCell ⟨B, 0, none⟩ v') (fun i => i = B ∨ v.ownBlock = some i) := by
  have hv1 : Boxed w1 B t v := (hv.alloc tmp).kept hgrow (hv.not_row hte hrow)
  have hk : Kept W w1 (fun i => v.ownBlock = some i) := (Kept.new (World.grownBy_alloc W tmp none) (fun i => v.ownBlock = some i)).trans (Kept.of hgrow (S := fun i => v.ownBlock = some i) (fun j e _ => e)) (fun _ _ e => e)
  refine ⟨hv1, hv1.set v', hown'.kept (grownBy_setCell' w1 B v') (.inr (hv1.not_row hte hown').symm), ?_, hk, ?_⟩
  · refine ((KeepsOthers.alloc W tmp).trans (KeepsOthers.of_grownBy hgrow fun j o ej hj => ?_)).trans (KeepsOthers.setCell _ _ _)
    rcases (hrow.alloc tmp).2 with ⟨rfl, _⟩ | ⟨g, cap, cur, rfl, _, hgb, _⟩
    · simp [Value.ownBlock] at ej
    · obtain rfl : g = j := by simpa [Value.ownBlock] using ej
      rw [hgb] at hj; cases hj; rfl
  · exact (hk.mono (fun _ _ e => .inr e)).trans (kept_setCell w1 B 0 v') (fun i _ e => .inl e)
theorem cell3_new (w : World) (x : Bg) (t : TypeId) : ∀ j u, (bgc x)[j]? = some u → (w.alloc (.cells (bgc x).toArray t)).cell? ((⟨w.heap.size, 0, none⟩ : Addr).add j) = some u := by
  intro j u hu
  rw [Addr.add_lit, Nat.zero_add, cell_row (heap_alloc_new w (.cells (bgc x).toArray t))]
  exact hu
theorem bgc_one (x : Bg) : ∀ u ∈ bgc x, u.oneCell' = true := by simp [bgc, Value.oneCell']
theorem bgs_snoc (xs : List Bg) (x : Bg) : bgs xs ++ bgc x = bgs (xs ++ [x]) := by rw [bgs_append]; simp [bgs]
/-- A booking appended to a row of one's own. -/
theorem app_bg {W : World} {B0 k : Nat} {v : Value} {xs : List Bg} (x : Bg) (hr : W.ownsRow B0 78 3 v k (bgs xs)) (hk : k + 1 ≤ 65536) (hB0 : B0 ≤ W.heap.size) :
    ∃ v' w3, (∀ ty, (Builtin.append_ #[25, 25] ty #[v, .slice (some ⟨W.heap.size, 0, none⟩) 1 1]).run Tryz.prog (W.alloc (.cells (bgc x).toArray 78)).drew = .ok v' w3) ∧ w3.ownsRow B0 78 3 v' (k + 1) (bgs (xs ++ [x])) ∧ (W.alloc (.cells (bgc x).toArray 78)).grownBy w3 v.ownBlock ∧ (v'.ownBlock = v.ownBlock ∨ v'.ownBlock = some (W.heap.size + 1)) := by
  obtain ⟨i0, hi0, hz0, hz1, hz2⟩ := info_parts Tryz.info78
  have hro : (W.alloc (.cells (bgc x).toArray 78)).drew.ownsRow B0 78 3 v k (bgs xs) := hr.alloc _
  have H := fun ty => run_append_own_at (P := Tryz.prog) (W.alloc (.cells (bgc x).toArray 78)).drew B0 25 ty 78 i0 (.agg #[.int .u32 0, .int .i64 0, .int .i64 0]) 3 24 Tryz.underlying25 hi0 hz0 hz1 hz2 rfl (by decide) v k (bgs xs) hro ⟨W.heap.size, 0, none⟩ 1 1 (bgc x) rfl (cell3_new W x 78) (bgc_one x) (by unfold maxLen; omega) (by omega) (by show B0 ≤ (W.alloc _).heap.size; simp; omega)
  obtain ⟨v', w3, e1, e2, e3, e4, e5⟩ := H 0
  refine ⟨v', w3, fun ty => e1, by rw [← bgs_snoc]; exact e2, ?_⟩
  refine ⟨⟨e3.os, e3.tape, e3.output, e3.size, e3.block⟩, ?_⟩
  rw [show (W.alloc (.cells (bgc x).toArray 78)).drew.heap.size = W.heap.size + 1 from World.size_alloc ..] at e5
  exact e5
theorem own_keep {W W' : World} {b : Nat} {e : TypeId} {size n : Nat} {v : Value} {xs : List Value} (h : W.ownsRow b e size v n xs) (g : W.grownBy W' none) : W'.ownsRow b e size v n xs :=
  Ix.row_keep h (fun q hq => by obtain ⟨_, cur, hc⟩ := Ix.own_block h hq; exact g.block q (row_lt hc) (by simp))
theorem own_own_from {base size : Nat} {e : TypeId} {v : Value} {n : Nat} {xs : List Value} (B : Nat) : OwnFrom B (fun (_ : Unit) W => W.ownsRow base e size v n xs) := fun _ W W' row h hg hr => by
  refine h.kept hg ?_
  rcases h.2 with ⟨e, _⟩ | ⟨g, cap, cur, e, _, hgg, _⟩
  · exact Or.inl (by rw [e]; rfl)
  · refine Or.inr (fun e' => ?_)
    rw [e] at e'
    obtain ⟨_, o, ho, hc⟩ := hr g e'.symm
    rw [hgg] at ho
    cases ho
    cases hc
theorem box_own_from {t : TypeId} {v : Value} {b : Nat} (B : Nat) : OwnFrom B (fun (_ : Unit) W => Boxed W b t v) := fun _ W W' row h hg hr => h.kept hg (fun e => by
  obtain ⟨_, o, ho, hc⟩ := hr b e.symm
  rw [show W.heap[b]? = _ from h] at ho
  cases ho
  cases hc)
/-- Inside bookings, between two of them. -/
structure BiI (w W : World) (Bb Bl B0 b1 b2 : Nat) (p : Bp) (M : List (Nat × Int)) (R : List Bg) (pre : List (Nat × Int)) : Prop where
  row : ∃ v, Boxed W Bl 25 v ∧ W.ownsRow B0 78 3 v pre.length (bgs (pre.map fun y => rd R y.2.toNat)) ∧ ∀ k, v.ownBlock = some k → k < b1 ∨ b2 ≤ k
  bx : Boxed W Bb 31 (.pointer (some ⟨p.b, 0, none⟩))
  fd : Fd W p.b p.sg p.ip M R
  gr : w.grownBy W none
  sz : b2 ≤ W.heap.size
theorem Fd.lts {w : World} {b sg : Nat} {ip : Ix.Ip} {M : List (Nat × Int)} {R : List Bg} (h : Fd w b sg ip M R) : b < w.heap.size ∧ sg < w.heap.size ∧ ∀ i, ip.own i → i < w.heap.size := ⟨h.blt, row_lt h.row, by obtain ⟨lo, h3⟩ := h.ix; exact h3.lt⟩
theorem BiI.own_from {w : World} {Bb Bl B0 b1 b2 B : Nat} {p : Bp} {M : List (Nat × Int)} {R : List Bg} (hB : w.heap.size ≤ B) (hb : p.b < B ∧ p.sg < B ∧ ∀ i, p.ip.own i → i < B) : OwnFrom B (fun pre W => BiI w W Bb Bl B0 b1 b2 p M R pre) := fun pre W W' row h hg hr => by
  obtain ⟨v, h1, h2, h3⟩ := h.row
  refine ⟨⟨v, box_own_from B () W W' row h1 hg hr, own_own_from B () W W' row h2 hg hr, h3⟩, box_own_from B () W W' row h.bx hg hr, ?_, grown_then h.gr hg (fun j e => Or.inl (Nat.le_trans hB (hr j e).1)), Nat.le_trans h.sz hg.size⟩
  exact h.fd.far (Kept.of hg (S := fun i => B ≤ i) (fun j e _ => (hr j e).1)) (by omega) (by omega) (fun i hi => by have := hb.2.2 i hi; omega)
theorem make_cap (n : Nat) (h : n ≤ 4096) (w : World) : (Instr.makeSlice 25 (.int .i64 0) (.int .i64 (n : Int))).run Tryz.prog w = .ok (.slice (some ⟨w.heap.size, 0, none⟩) 0 n) (w.alloc (.cells (bgs (List.replicate n ⟨0, 0, 0⟩)).toArray 78)) := by
  obtain ⟨i0, hi, hz0, hz1, hz2⟩ := info_parts Tryz.info78
  rw [run_make (P := Tryz.prog) (w := w) 25 78 i0 (.agg #[.int .u32 0, .int .i64 0, .int .i64 0]) Tryz.underlying25 hi hz0 .i64 .i64 0 (n : Int) (by omega) (by omega) (by rw [hz2]; omega) (by omega), hz1]
  simp [bgs_zero, Value.cells]
set_option maxRecDepth 100000 in
set_option maxHeartbeats 4000000 in
theorem bookings_any {w : World} {p : Bp} {S : Sb} {K : Nat} (h : BkAt w p S K) (hw : S.Wk) : Calls Tryz.prog 50 #[.pointer (some ⟨p.b, 0, none⟩)] w fun e w' => ∃ v, e = .returned v ∧ w'.ownsRow w.heap.size 78 3 v S.L.length (bgs S.L) ∧ w.grownBy w' none := by
  have HN := hide (h.then (grown_alloc w (.cells #[.pointer (some ⟨p.b, 0, none⟩)] 31))).isNone
  have HL := hide (h.then (grown_alloc w (.cells #[.pointer (some ⟨p.b, 0, none⟩)] 31))).len
  obtain ⟨Lb, R, M, E, T, N, B, C, h, hR, hN⟩ := h
  have hMl : M.length = S.L.length := by rw [hR.m, mx_length]
  have hM0 : M.length ≤ 65536 := by have := hw.few; have := hw.b1; omega
  have hMr : (M.map fun y => rd R y.2.toNat) = S.L := by
    rw [hR.m]
    unfold mx
    rw [List.map_map]
    conv => rhs; rw [← List.map_id S.L]
    apply List.map_congr_left
    intro y hy
    simp [rd, hR.rw y hy]
  have hmk := make_cap S.L.length (by have := hw.few; have := hw.b1; omega)
  have hb8 := (h.then (grown_alloc w (.cells #[.pointer (some ⟨p.b, 0, none⟩)] 31))).cells 8 _ rfl
  have hlen : S.L.length ≤ 4096 := by have := hw.few; have := hw.b1; omega
  obtain ⟨w1, hw1⟩ : ∃ w1, w1 = ((w.alloc (.cells #[.pointer (some ⟨p.b, 0, none⟩)] 31)).alloc (.cells (bgs (List.replicate S.L.length ⟨0, 0, 0⟩)).toArray 78)).alloc (.cells #[.slice (some ⟨w.heap.size + 1, 0, none⟩) 0 S.L.length] 25) := ⟨_, rfl⟩
  have g1 : w.grownBy w1 none := by rw [hw1]; exact gn_alloc (gn_alloc (gn_alloc (grown_refl _ _) _) _) _
  have b1 : Boxed w1 w.heap.size 31 (.pointer (some ⟨p.b, 0, none⟩)) := by rw [hw1]; exact ((Boxed.new w 31 _).alloc _).alloc _
  have b2 : Boxed w1 (w.heap.size + 1 + 1) 25 (.slice (some ⟨w.heap.size + 1, 0, none⟩) 0 S.L.length) := by
    have := Boxed.new ((w.alloc (.cells #[.pointer (some ⟨p.b, 0, none⟩)] 31)).alloc (.cells (bgs (List.replicate S.L.length ⟨0, 0, 0⟩)).toArray 78)) 25 (.slice (some ⟨w.heap.size + 1, 0, none⟩) 0 S.L.length)
    simp only [World.size_alloc] at this
    rw [hw1]; exact this
  have r1 : w1.ownsRow w.heap.size 78 3 (.slice (some ⟨w.heap.size + 1, 0, none⟩) 0 S.L.length) 0 [] := by
    refine ⟨by simp, Or.inr ⟨w.heap.size + 1, S.L.length, (bgs (List.replicate S.L.length ⟨0, 0, 0⟩)).toArray, rfl, by omega, ?_, Nat.zero_le _, by unfold maxLen; omega, by simp [bgs_length], by simp⟩⟩
    rw [hw1]
    have h0 := heap_alloc_new (w.alloc (.cells #[.pointer (some ⟨p.b, 0, none⟩)] 31)) (.cells (bgs (List.replicate S.L.length ⟨0, 0, 0⟩)).toArray 78)
    rw [World.size_alloc] at h0
    exact ((grown_alloc _ _).block _ (row_lt h0) (by simp)).trans h0
  have s1 : w1.heap.size = w.heap.size + 3 := by rw [hw1]; simp
  have c18 : w1.cell? ⟨p.b, 8, none⟩ = some (.pointer (some ⟨p.ip.x, 0, none⟩)) := (h.then g1).cells 8 _ rfl
  have HA : Hid (Calls Tryz.prog 81 #[.pointer (some ⟨p.ip.x, 0, none⟩)] w1 fun e w' => ∃ v, e = .returned v ∧ Ix.AllV w' w1.heap.size v M ∧ w1.grownBy w' none) := by
    obtain ⟨lo, h3⟩ := (h.then g1).ix
    exact Ix.all_io h3
  have v10 := b1.cell
  have HF1 := hide (h.then g1).fd
  have H1 := hide (And.intro g1 (And.intro b1 (And.intro b2 (And.intro r1 s1))))
  have HM := hide (And.intro hM0 (And.intro hMr (And.intro hMl h.mi)))
  have HW1 := hide hw1
  have hrb : R.length ≤ 1024 := h.fd.rb
  have HP00 := hide h.fd.lts
  clear h hR hN hw g1 b1 b2 r1 s1 hM0 hMr hMl hw1
  generalize hn : S.L.length = n at *
  have HNL := hide hn
  clear hn
  refine (callsIn_wide (n := 6)).1 (callsIn_of_wp_marks Tryz.func50 rfl trivial ?_ rfl)
  simp only [Tryz.ntmps50, List.size_toArray, List.length_cons, List.length_nil, Nat.reduceAdd, Nat.reduceSub, Array.replicate_succ, Array.replicate_zero, List.push_toArray, List.append_toArray, List.nil_append, List.cons_append]
  refine wpIn_wide.2 ?_
  go_wp2_with fail
  refine HN.out.mono ?_
  rintro e wa ⟨rfl, rfl⟩
  go_wp2_with fail
  refine HL.out.mono ?_
  rintro e wa ⟨rfl, rfl⟩
  go_wp2_with (rw [← HW1.out])
  refine HA.out.mono ?_
  rintro e w2 ⟨v, rfl, ⟨B, so, cap, rfl, hI, hB0, hso⟩, g2⟩
  have hz2 := g2.size
  have s1 := H1.out.2.2.2.2
  have I0 : Hid (BiI w w2 w.heap.size (w.heap.size + 1 + 1) w.heap.size w1.heap.size w2.heap.size p M R []) := ⟨⟨_, H1.out.2.2.1.kept g2 (by simp), own_keep H1.out.2.2.2.1 g2, fun k hk => .inl (by have e : some (w.heap.size + 1) = some k := hk; have := Option.some.inj e; omega)⟩, H1.out.2.1.kept g2 (by simp), HF1.out.then g2, grown_trans H1.out.1 g2, Nat.le_refl _⟩
  have HI := hide (And.intro hI (And.intro hB0 hso))
  have HQ : Hid (∀ i, vbk B so M.length i → w1.heap.size ≤ i ∧ i < w2.heap.size) := by
    intro i hi
    refine ⟨?_, ItE_lt hI i hi⟩
    rcases hi with rfl | ⟨-, a, ha, rfl⟩
    · exact hB0
    · exact hso a ha
  have HB : Hid (p.b < w2.heap.size ∧ p.sg < w2.heap.size ∧ ∀ i, p.ip.own i → i < w2.heap.size) := (HF1.out.then g2).lts
  have HP0 : Hid (p.b < w.heap.size ∧ p.sg < w.heap.size ∧ ∀ i, p.ip.own i → i < w.heap.size) := HP00.out
  clear hI hB0 hso HA HN HL HW1 hmk hb8 c18 HP00
  go_wp2
  refine (wpIn_wide (n := 6)).1 (wpIn_range_V (w := w2) rfl (by decide) (gf := 104) (lb := #[.pointer (some ⟨B, 0, none⟩)]) rfl trivial (enters_of Tryz.func104 (by kernel_rfl) rfl)
    (encs := Ix.encE) (Kp := KpB (vbk B so M.length)) (V := fun pre x _ => pre ++ [x] <+: M) (S := fun ys => ys = M)
    (fun W hW => Ix.ix_seqV _ 5 (by decide) B so cap M HM.out.1 (fun _ _ k h => ItE_keep h k) W (HI.out.1.grown hW))
    (fun h k => h.trans k) (fun W l o hl => KpB.put (fun hq => by have := (HQ.out l hq).2; omega)) (fun W W' _ hg => KpB.new hg) (fun _ => rfl)
    (fun pre => fun _ _ _ _ h _ _ => h)
    (fun pre W => BiI w W w.heap.size (w.heap.size + 1 + 1) w.heap.size w1.heap.size w2.heap.size p M R pre) (fun _ _ _ => False)
    (BiI.own_from (by omega) HB.out) (fun _ _ _ _ _ h _ _ => h) I0.out
    (fun x a' _ => a' = { tmps := #[Value.pointer (some ⟨p.b, 0, none⟩), Value.pointer (some ⟨w.heap.size, 0, none⟩), Value.slice none 0 0, Value.pointer (some ⟨w.heap.size + 1 + 1, 0, none⟩), undef, Value.int IntKind.i64 x.2, Value.pointer (some ⟨p.b, 0, none⟩), Value.bool false, Value.pointer (some ⟨p.b, 0, none⟩), Value.pointer (some ⟨p.b, 0, none⟩), Value.pointer (some ⟨p.b, 8, none⟩), Value.pointer (some ⟨p.ip.x, 0, none⟩), Value.int IntKind.i64 (n : Int), Value.slice (some ⟨w.heap.size + 1, 0, none⟩) 0 n, Value.pointer (some ⟨p.b, 0, none⟩), Value.pointer (some ⟨p.b, 0, none⟩), Value.pointer (some ⟨p.b, 8, none⟩), Value.pointer (some ⟨p.ip.x, 0, none⟩), Value.func (Fn.func 104) #[] #[Value.pointer (some ⟨B, 0, none⟩)], Value.int IntKind.u32 (x.1 : Int), Value.int IntKind.i64 x.2, undef, undef, undef, undef, undef, undef, undef, undef, undef, undef, undef], defers := [] }) (fun x => fun _ _ _ _ h _ _ => h) ?assign ?body ?done (fun _ _ _ _ _ h _ => h.elim))
  case assign =>
    intro l pre x W K hI hV hK
    simp only [Ix.encE]
    gi_wp2
    exact hK _ _ (grown_refl _ _) rfl
  case body =>
    rintro l pre ⟨x1, x2⟩ a' W hI hV rfl
    have hmem : (x1, x2) ∈ M := hV.subset (by simp)
    have hpl : pre.length + 1 ≤ M.length := by have := hV.length_le; simpa using this
    obtain ⟨s0, s9⟩ := HM.out.2.2.2 _ hmem
    simp only at s0 s9
    obtain ⟨s, rfl⟩ : ∃ s : Nat, x2 = (s : Int) := ⟨x2.toNat, by omega⟩
    simp only [Int.toNat_natCast] at s9
    obtain ⟨v, hb2, hr2, hq2⟩ := hI.row
    have hM0 := HM.out.1
    obtain ⟨v', w3, hrun, hown, hgr, hob⟩ := app_bg (rd R s) hr2 (by omega) (Nat.le_trans hI.gr.size (Nat.le_refl _))
    obtain ⟨q1, q2, q3, q4, q5, q6⟩ := box_app hb2 (by decide) hr2 hown hgr
    have hrow1 : ∀ k, v.ownBlock = some k → w.heap.size ≤ k ∧ ∃ cur : Array Value, W.heap[k]? = some (.cells cur 78 (0, 0)) := fun k hk => by
      obtain ⟨h1, cur, h2⟩ := Ix.own_block hr2 hk; exact ⟨h1, cur, h2⟩
    have hBb : ¬ w.heap.size = w.heap.size + 1 + 1 := by omega
    have hbl : p.b < w.heap.size + 0 ∨ True := .inr trivial
    have hlt := HB.out
    have hne1 : ∀ i, i < w.heap.size → ¬ (i = w.heap.size + 1 + 1 ∨ v.ownBlock = some i) := by
      rintro i hi (e | e)
      · omega
      · have := (hrow1 i e).1; omega
    have hfl := HP0.out
    have fd3 : Fd w3 p.b p.sg p.ip M R := hI.fd.far q5 (fun e => hne1 _ hfl.1 (.inr e)) (fun e => hne1 _ hfl.2.1 (.inr e)) (fun i hi e => hne1 _ (hfl.2.2 i hi) (.inr e))
    have fd4 : Fd (w3.setCell ⟨w.heap.size + 1 + 1, 0, none⟩ v') p.b p.sg p.ip M R := hI.fd.far q6 (hne1 _ hfl.1) (hne1 _ hfl.2.1) (fun i hi => hne1 _ (hfl.2.2 i hi))
    have hbx : ∀ k, v.ownBlock = some k → k ≠ w.heap.size := fun k hk e => by
      obtain ⟨-, cur, hc⟩ := hrow1 k hk
      have h2 : W.heap[w.heap.size]? = _ := hI.bx
      rw [e, h2] at hc
      cases hc
    have bx3 : Boxed w3 w.heap.size 31 (.pointer (some ⟨p.b, 0, none⟩)) := q5.at hI.bx (fun e => hbx _ e rfl)
    have bx4 : Boxed (w3.setCell ⟨w.heap.size + 1 + 1, 0, none⟩ v') w.heap.size 31 (.pointer (some ⟨p.b, 0, none⟩)) := q6.at hI.bx (by
      rintro (e | e)
      · omega
      · exact hbx _ e rfl)
    have hkp : KpB (vbk B so M.length) W (w3.setCell ⟨w.heap.size + 1 + 1, 0, none⟩ v') := KpB.of q6 (by
      intro i hi
      have h2 := (HQ.out i hi).1
      rintro (e | e)
      · omega
      · have h3 := (HQ.out i hi).2
        have := hq2 i e
        omega)
    have HZZ : Hid (∀ a', ownPostG w2.heap.size (KpB (vbk B so M.length)) (fun pre W => BiI w W w.heap.size (w.heap.size + 1 + 1) w.heap.size w1.heap.size w2.heap.size p M R pre) (fun _ _ _ => False) (pre ++ [(x1, (s : Int))]) W .normal a' (w3.setCell ⟨w.heap.size + 1 + 1, 0, none⟩ v')) := by
      intro a'
      refine ⟨q4.from _, hkp, ⟨⟨v', q2, ?_⟩, bx4, fd4, ?_, Nat.le_trans hI.sz q6.size⟩⟩
      · rw [List.length_append, List.map_append]
        refine ⟨q3, fun k hk => ?_⟩
        rcases hob with e | e
        · exact hq2 k (by rw [← e]; exact hk)
        · rw [e] at hk
          have := Option.some.inj hk
          have := hI.sz
          exact .inr (by omega)
      · refine Kept.grown (((Kept.new hI.gr (fun i => w.heap.size ≤ i)).trans q6 ?_)) (fun i hi e => by omega)
        rintro i hi (e | e)
        · omega
        · exact (hrow1 _ e).1
    obtain ⟨vo, vcap, rfl, -⟩ := Ix.own_form hr2
    obtain ⟨vo', vcap', rfl, -⟩ := Ix.own_form hown
    have hS : ∀ W', Fd W' p.b p.sg p.ip M R → Boxed W' w.heap.size 31 (.pointer (some ⟨p.b, 0, none⟩)) → W'.cell? ⟨w.heap.size, 0, none⟩ = some (.pointer (some ⟨p.b, 0, none⟩)) ∧ W'.cell? ⟨p.b, 7, none⟩ = some (.slice (some ⟨p.sg, 0, none⟩) R.length R.length) ∧ W'.cell? ⟨p.sg, s * 3, none⟩ = some (.int .u32 ((rd R s).i : Int)) ∧ W'.cell? ⟨p.sg, s * 3 + 1, none⟩ = some (.int .i64 ((rd R s).s : Int)) ∧ W'.cell? ⟨p.sg, s * 3 + 2, none⟩ = some (.int .i64 (rd R s).u) := fun W' h1 h2 => ⟨h2.cell, h1.cells.1, h1.seat s9⟩
    have gA : W.grownBy (W.alloc (.cells (bgc (rd R s)).toArray 78)).drew none := gn_drew (grown_alloc W _)
    have HK0 := hide (hS W.drew (hI.fd.then (grown_drew W none)) (hI.bx.kept (grown_drew W none) (by simp)))
    have HK1 := hide (hS _ (hI.fd.then gA) (hI.bx.kept gA (by simp)))
    have HK2 := hide (hS w3 fd3 bx3)
    have HK3 := hide (hS _ fd4 bx4)
    have HRun := hide hrun
    have l0 : W.cell? ⟨w.heap.size + 1 + 1, 0, none⟩ = some (.slice vo pre.length vcap) := hb2.cell
    have l1 : (W.alloc (.cells (bgc (rd R s)).toArray 78)).cell? ⟨w.heap.size + 1 + 1, 0, none⟩ = some (.slice vo pre.length vcap) := (grown_alloc W _).cell hb2.cell (by simp)
    have l2 : w3.cell? ⟨w.heap.size + 1 + 1, 0, none⟩ = some (.slice vo pre.length vcap) := q1.cell
    have l3 := q1.frozen
    clear hS gA hrun hgr hown hob q1 q2 q3 q4 q5 q6 fd3 fd4 bx3 bx4 hbx hne1 hrow1 hkp hI hb2 hr2 hq2 hfl hlt hbl hmem hV
    generalize rd R s = x at *
    obtain ⟨xi, xs, xu⟩ := x
    simp only [bgc] at *
    gi_wp2
    refine wpIn_round_held (S := (fun W => W.cell? ⟨w.heap.size, 0, none⟩ = some (.pointer (some ⟨p.b, 0, none⟩)) ∧ W.cell? ⟨p.b, 7, none⟩ = some (.slice (some ⟨p.sg, 0, none⟩) R.length R.length) ∧ W.cell? ⟨p.sg, s * 3, none⟩ = some (.int .u32 (xi : Int)) ∧ W.cell? ⟨p.sg, s * 3 + 1, none⟩ = some (.int .i64 (xs : Int)) ∧ W.cell? ⟨p.sg, s * 3 + 2, none⟩ = some (.int .i64 xu))) (by kernel_rfl) (by kernel_rfl) (by rintro ⟨_, _, h⟩; exact h) ?_ (fun hHeld => ?_)
    · (exact HK0.out)
    refine wpAnyH_take (i := 1) (oi := { dst := some 22, op := Go.Op.load 31 (Go.Operand.tmp 1), type := 31, pos := "book.go:227", after := #[], guard := none }) (v := ?_) rfl (by kernel_rfl) (by kernel_rfl) (by kernel_rfl) (fun _ _ _ h => h) (Or.inl ⟨by rfl, ?_⟩) (by assumption) ?_
    rotate_left
    · (intro w hSw; (try dsimp only at hSw); (go_simp <;> with_reducible rfl))
    try simp only [Act.put, List.setIfInBounds_toArray, List.set_cons_zero, List.set_cons_succ]
    refine wpAnyH_take (i := 2) (oi := { dst := some 23, op := Go.Op.nilCheck (Go.Operand.tmp 22), type := 0, pos := "book.go:227", after := #[{ on := 1, ground := Go.Ground.data }], guard := none }) (v := ?_) rfl (by kernel_rfl) (by kernel_rfl) (by kernel_rfl) (fun _ _ _ h => h) (Or.inl ⟨by rfl, ?_⟩) (by assumption) ?_
    rotate_left
    · (intro w hSw; (try dsimp only at hSw); (go_simp <;> with_reducible rfl))
    try simp only [Act.put, List.setIfInBounds_toArray, List.set_cons_zero, List.set_cons_succ]
    refine wpAnyH_take (i := 3) (oi := { dst := some 24, op := Go.Op.fieldAddr 66 (Go.Operand.tmp 23) 5, type := 0, pos := "book.go:227", after := #[{ on := 2, ground := Go.Ground.data }], guard := none }) (v := ?_) rfl (by kernel_rfl) (by kernel_rfl) (by kernel_rfl) (fun _ _ _ h => h) (Or.inl ⟨by rfl, ?_⟩) (by assumption) ?_
    rotate_left
    · (intro w hSw; (try dsimp only at hSw); (go_simp <;> with_reducible rfl))
    try simp only [Act.put, List.setIfInBounds_toArray, List.set_cons_zero, List.set_cons_succ]
    refine wpAnyH_take (i := 4) (oi := { dst := some 25, op := Go.Op.load 25 (Go.Operand.tmp 24), type := 25, pos := "book.go:227", after := #[{ on := 3, ground := Go.Ground.data }], guard := none }) (v := ?_) rfl (by kernel_rfl) (by kernel_rfl) (by kernel_rfl) (fun _ _ _ h => h) (Or.inl ⟨by rfl, ?_⟩) (by assumption) ?_
    rotate_left
    · (intro w hSw; (try dsimp only at hSw); (go_simp <;> with_reducible rfl))
    try simp only [Act.put, List.setIfInBounds_toArray, List.set_cons_zero, List.set_cons_succ]
    refine wpAnyH_take (i := 5) (oi := { dst := some 26, op := Go.Op.move (Go.Operand.tmp 5), type := 3, pos := "book.go:227", after := #[], guard := none }) (v := ?_) rfl (by kernel_rfl) (by kernel_rfl) (by kernel_rfl) (fun _ _ _ h => h) (Or.inl ⟨by rfl, ?_⟩) (by assumption) ?_
    rotate_left
    · (intro w hSw; (try dsimp only at hSw); (go_simp <;> with_reducible rfl))
    try simp only [Act.put, List.setIfInBounds_toArray, List.set_cons_zero, List.set_cons_succ]
    refine wpAnyH_take (i := 6) (oi := { dst := some 27, op := Go.Op.indexAddr 25 (Go.Operand.tmp 25) (Go.Operand.tmp 26), type := 0, pos := "book.go:227", after := #[{ on := 4, ground := Go.Ground.data }, { on := 5, ground := Go.Ground.data }], guard := none }) (v := ?_) rfl (by kernel_rfl) (by kernel_rfl) (by kernel_rfl) (fun _ _ _ h => h) (Or.inl ⟨by rfl, ?_⟩) (by assumption) ?_
    rotate_left
    · (intro w hSw; (try dsimp only at hSw); (go_simp <;> with_reducible rfl))
    try simp only [Act.put, List.setIfInBounds_toArray, List.set_cons_zero, List.set_cons_succ]
    refine wpAnyH_take (i := 7) (oi := { dst := some 28, op := Go.Op.load 78 (Go.Operand.tmp 27), type := 78, pos := "book.go:227", after := #[{ on := 6, ground := Go.Ground.data }], guard := none }) (v := ?_) rfl (by kernel_rfl) (by kernel_rfl) (by kernel_rfl) (fun _ _ _ h => h) (Or.inl ⟨by rfl, ?_⟩) (by assumption) ?_
    rotate_left
    · (intro w hSw; (try dsimp only at hSw); (go_simp <;> with_reducible rfl))
    try simp only [Act.put, List.setIfInBounds_toArray, List.set_cons_zero, List.set_cons_succ]
    refine wpAnyH_ready (rs := [0, 8]) (by kernel_rfl) (by simp) ?_
    refine AllReadyH.cons (o := { dst := some 21, op := Go.Op.load 25 (Go.Operand.tmp 3), type := 25, pos := "book.go:227", after := #[], guard := none }) rfl (fun K hK => ?_) ?_
    · skip
      go_simp
      refine hK.out _ _ ?_ (fun hHeld => ?_)
      · ((try dsimp only); first | exact HK0.out | exact HK1.out | exact HK2.out | exact HK3.out)
      clear hK K
      try simp only [Act.put, List.setIfInBounds_toArray, List.set_cons_zero, List.set_cons_succ]
      refine wpAnyH_ready (rs := [8]) (by kernel_rfl) (by simp) ?_
      refine AllReadyH.cons (o := { dst := some 29, op := Go.Op.buildSlice 25 1 #[(0, Go.Operand.tmp 28)], type := 25, pos := "book.go:227", after := #[{ on := 7, ground := Go.Ground.data }], guard := none }) rfl (fun K hK => ?_) ?_
      rotate_left
      · exact AllReadyH.nil
      go_simp
      refine hK.out _ _ ?_ (fun hHeld => ?_)
      · ((try dsimp only); first | exact HK0.out | exact HK1.out | exact HK2.out | exact HK3.out)
      clear hK K
      try simp only [Act.put, List.setIfInBounds_toArray, List.set_cons_zero, List.set_cons_succ]
      refine wpAnyH_ready (rs := [9]) (by kernel_rfl) (by simp) ?_
      refine AllReadyH.cons (o := { dst := some 30, op := Go.Op.call { callee := Go.Callee.builtin Go.Builtin.append, args := #[Go.Operand.tmp 21, Go.Operand.tmp 29], argTypes := #[25, 25] }, type := 25, pos := "book.go:227", after := #[{ on := 0, ground := Go.Ground.data }, { on := 8, ground := Go.Ground.data }], guard := none }) rfl (fun K hK => ?_) ?_
      rotate_left
      · exact AllReadyH.nil
      refine step_append_run (by rfl) _ _ _ (by rfl) _ _ (by rfl) (by rfl) HRun.out ?_
      refine hK.out _ _ ?_ (fun hHeld => ?_)
      · ((try dsimp only); first | exact HK0.out | exact HK1.out | exact HK2.out | exact HK3.out)
      clear hK K
      try simp only [Act.put, List.setIfInBounds_toArray, List.set_cons_zero, List.set_cons_succ]
      refine wpAnyH_ready (rs := [10]) (by kernel_rfl) (by simp) ?_
      refine AllReadyH.cons (o := { dst := none, op := Go.Op.store 25 (Go.Operand.tmp 3) (Go.Operand.tmp 30), type := 0, pos := "book.go:227", after := #[{ on := 9, ground := Go.Ground.data }, { on := 9, ground := Go.Ground.chain }, { on := 0, ground := Go.Ground.phase }, { on := 1, ground := Go.Ground.phase }, { on := 2, ground := Go.Ground.phase }, { on := 3, ground := Go.Ground.phase }, { on := 4, ground := Go.Ground.phase }, { on := 5, ground := Go.Ground.phase }, { on := 6, ground := Go.Ground.phase }, { on := 7, ground := Go.Ground.phase }, { on := 8, ground := Go.Ground.phase }, { on := 9, ground := Go.Ground.phase }], guard := none }) rfl (fun K hK => ?_) ?_
      rotate_left
      · exact AllReadyH.nil
      go_simp
      refine hK.out _ _ ?_ (fun hHeld => ?_)
      · ((try dsimp only); first | exact HK0.out | exact HK1.out | exact HK2.out | exact HK3.out)
      clear hK K
      try simp only [Act.put, List.setIfInBounds_toArray, List.set_cons_zero, List.set_cons_succ]
      refine wpAnyH_done (by kernel_rfl) ?_ _
      gi_wp2
      exact HZZ.out _
    refine AllReadyH.cons (o := { dst := some 29, op := Go.Op.buildSlice 25 1 #[(0, Go.Operand.tmp 28)], type := 25, pos := "book.go:227", after := #[{ on := 7, ground := Go.Ground.data }], guard := none }) rfl (fun K hK => ?_) ?_
    · skip
      go_simp
      refine hK.out _ _ ?_ (fun hHeld => ?_)
      · ((try dsimp only); first | exact HK0.out | exact HK1.out | exact HK2.out | exact HK3.out)
      clear hK K
      try simp only [Act.put, List.setIfInBounds_toArray, List.set_cons_zero, List.set_cons_succ]
      refine wpAnyH_ready (rs := [0]) (by kernel_rfl) (by simp) ?_
      refine AllReadyH.cons (o := { dst := some 21, op := Go.Op.load 25 (Go.Operand.tmp 3), type := 25, pos := "book.go:227", after := #[], guard := none }) rfl (fun K hK => ?_) ?_
      rotate_left
      · exact AllReadyH.nil
      go_simp
      refine hK.out _ _ ?_ (fun hHeld => ?_)
      · ((try dsimp only); first | exact HK0.out | exact HK1.out | exact HK2.out | exact HK3.out)
      clear hK K
      try simp only [Act.put, List.setIfInBounds_toArray, List.set_cons_zero, List.set_cons_succ]
      refine wpAnyH_ready (rs := [9]) (by kernel_rfl) (by simp) ?_
      refine AllReadyH.cons (o := { dst := some 30, op := Go.Op.call { callee := Go.Callee.builtin Go.Builtin.append, args := #[Go.Operand.tmp 21, Go.Operand.tmp 29], argTypes := #[25, 25] }, type := 25, pos := "book.go:227", after := #[{ on := 0, ground := Go.Ground.data }, { on := 8, ground := Go.Ground.data }], guard := none }) rfl (fun K hK => ?_) ?_
      rotate_left
      · exact AllReadyH.nil
      refine step_append_run (by rfl) _ _ _ (by rfl) _ _ (by rfl) (by rfl) HRun.out ?_
      refine hK.out _ _ ?_ (fun hHeld => ?_)
      · ((try dsimp only); first | exact HK0.out | exact HK1.out | exact HK2.out | exact HK3.out)
      clear hK K
      try simp only [Act.put, List.setIfInBounds_toArray, List.set_cons_zero, List.set_cons_succ]
      refine wpAnyH_ready (rs := [10]) (by kernel_rfl) (by simp) ?_
      refine AllReadyH.cons (o := { dst := none, op := Go.Op.store 25 (Go.Operand.tmp 3) (Go.Operand.tmp 30), type := 0, pos := "book.go:227", after := #[{ on := 9, ground := Go.Ground.data }, { on := 9, ground := Go.Ground.chain }, { on := 0, ground := Go.Ground.phase }, { on := 1, ground := Go.Ground.phase }, { on := 2, ground := Go.Ground.phase }, { on := 3, ground := Go.Ground.phase }, { on := 4, ground := Go.Ground.phase }, { on := 5, ground := Go.Ground.phase }, { on := 6, ground := Go.Ground.phase }, { on := 7, ground := Go.Ground.phase }, { on := 8, ground := Go.Ground.phase }, { on := 9, ground := Go.Ground.phase }], guard := none }) rfl (fun K hK => ?_) ?_
      rotate_left
      · exact AllReadyH.nil
      go_simp
      refine hK.out _ _ ?_ (fun hHeld => ?_)
      · ((try dsimp only); first | exact HK0.out | exact HK1.out | exact HK2.out | exact HK3.out)
      clear hK K
      try simp only [Act.put, List.setIfInBounds_toArray, List.set_cons_zero, List.set_cons_succ]
      refine wpAnyH_done (by kernel_rfl) ?_ _
      gi_wp2
      exact HZZ.out _
    exact AllReadyH.nil
  case done =>
    rintro D ys W hD rfl hI hK
    obtain ⟨v, hb2, hr2, -⟩ := hI.row
    obtain ⟨vo, vcap, rfl, -⟩ := Ix.own_form hr2
    have l0 : W.cell? ⟨w.heap.size + 1 + 1, 0, none⟩ = some (.slice vo ys.length vcap) := hb2.cell
    have HX := hide (And.intro hI (And.intro hr2 hK))
    clear hI hb2 hr2 hK
    go_wp2
    obtain ⟨hI, hr2, hK⟩ := HX.out
    refine ⟨by simp, .inl ⟨_, _, rfl, run_takeDeferred hK, ?_⟩⟩
    have hf2 := ownsRow_putObj hr2 (.deferred none) hK rfl
    rw [HM.out.2.1] at hf2
    refine ⟨_, results_tmp rfl _ _ _, _, rfl, ?_, ?_⟩
    · have e := HM.out.2.2.1
      rw [← e]
      exact hf2
    · exact grown_then hI.gr (grownBy_putObj' _ D _) (fun j e => by cases e; exact Or.inl (by omega))
/-- What goes through X, its blocks from B0 on. -/
def VlV (w : World) (B0 : Nat) (v : Value) (X : List Bg) : Prop := ∃ B so cap, v = .func (.func 82) #[] #[.pointer (some ⟨B, 0, none⟩)] ∧ ItB w B so cap X ∧ ∀ i, vbk B so X.length i → B0 ≤ i
theorem VlV.then {w w' : World} {B0 : Nat} {v : Value} {X : List Bg} (h : VlV w B0 v X) (g : w.grownBy w' none) : VlV w' B0 v X := by
  obtain ⟨B, so, cap, h1, h2, h3⟩ := h
  exact ⟨B, so, cap, h1, h2.grown g, h3⟩
theorem VlV.far {w w' : World} {B0 : Nat} {v : Value} {X : List Bg} {Z : Nat → Prop} (h : VlV w B0 v X) (k : Kept w w' Z) (hZ : ∀ i, B0 ≤ i → i < w.heap.size → ¬ Z i) : VlV w' B0 v X := by
  obtain ⟨B, so, cap, h1, h2, h3⟩ := h
  have hl := h2.lt
  have hk : KpB (vbk B so X.length) w w' := ⟨k.size, fun i hi hlt => k.block i hlt (hZ i (h3 i hi) hlt)⟩
  exact ⟨B, so, cap, h1, h2.keep hk, h3⟩
theorem values_any {w : World} {B0 : Nat} {v : Value} {X : List Bg} (h : w.ownsRow B0 78 3 v X.length (bgs X)) (hB : B0 ≤ w.heap.size) : Calls Tryz.prog 52 #[v] w fun e w' => ∃ u, e = .returned u ∧ VlV w' B0 u X ∧ w.grownBy w' none := by
  have hmf : ∀ (fn : Fn) (first cap : Array Value) (w : World), (Instr.makeFunc fn first cap).run Tryz.prog w = .ok (.func fn first cap) w := fun _ _ _ _ => rfl
  obtain ⟨vo, vcap, rfl, hle⟩ := Ix.own_form h
  have HX : Hid (∀ W, W = w.alloc (.cells #[.slice vo X.length vcap] 25) → VlV W B0 (.func (.func 82) #[] #[.pointer (some ⟨w.heap.size, 0, none⟩)]) X ∧ w.grownBy W none) := by
    intro W hW
    have g : w.grownBy W none := by rw [hW]; exact grown_alloc _ _
    refine ⟨⟨w.heap.size, vo, vcap, rfl, ⟨by rw [hW]; exact heap_alloc_new w _, hle, fun i hi => ?_⟩, ?_⟩, g⟩
    · obtain ⟨q, c, cur, e1, e2, e3, e4, e5, e6, e7⟩ := Ix.own_row h (by omega)
      cases e1
      obtain ⟨b1, b2, b3⟩ := bgs_get hi
      exact ⟨q, rfl, g.cell (Ix.own_cell e3 e7 b1) (by simp), g.cell (Ix.own_cell e3 e7 b2) (by simp), g.cell (Ix.own_cell e3 e7 b3) (by simp)⟩
    · rintro i (rfl | ⟨hn, a, ha, rfl⟩)
      · exact hB
      · obtain ⟨q, c, cur, e1, e2, -⟩ := Ix.own_row h (by omega)
        cases e1
        cases ha
        exact e2
  clear h
  go_enter Tryz.func52, Tryz.ntmps52
  go_wp2
  go_ret
  exact ⟨_, rfl, HX.out _ rfl⟩
theorem all_any {w : World} {p : Bp} {S : Sb} {K : Nat} (h : BkAt w p S K) (hw : S.Wk) : Calls Tryz.prog 27 #[.pointer (some ⟨p.b, 0, none⟩)] w fun e w' => ∃ u, e = .returned u ∧ VlV w' w.heap.size u S.L ∧ w.grownBy w' none := by
  have HB := hide (bookings_any h hw)
  clear h
  go_enter Tryz.func27, Tryz.ntmps27
  go_wp2_with fail
  refine HB.out.mono ?_
  rintro e w1 ⟨v, rfl, h1, h2⟩
  have HV := hide (values_any h1 h2.size)
  have HG := hide h2
  clear h1 h2 HB
  go_wp2_with fail
  refine HV.out.mono ?_
  rintro e w2 ⟨u, rfl, h3, h4⟩
  have HF := hide (And.intro h3 (grown_trans HG.out h4))
  clear h3 h4 HV HG
  go_wp2
  go_ret
  exact ⟨u, rfl, HF.out⟩
end Go.Proofs.YtcbiloomnkbalaaGreatDoor
