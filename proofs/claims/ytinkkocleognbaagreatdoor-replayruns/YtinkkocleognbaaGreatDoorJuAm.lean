/- Texts joined: JnAm. -/
import Derived.Test.YtinkkocleognbaaGreatDoorJuAl
import Derived.RangeFuncWrites
/- Texts joined: BkI, BkJ, BkK. -/
/- All bookings, gathered. -/
namespace Go.Proofs.YtinkkocleognbaaGreatDoor
open Go.RowKit Go.Shelf
attribute [local go_sem ↓] Go.wp_at_zero Go.wp_at_succ
attribute [local go_sem] Oper.semAt_some
/-- append, as one step of a region that draws, by its run. -/
theorem step_append_run {P : Program} {ops : Array Oper} {o : Oper} {a : Act} {w : World} {K : Act → World → Prop} {Q : Exit → Act → World → Prop} {E : Prop} (hg : o.guard = none) (s x : Operand) (t : TypeId) (hop : o.op = Op.call { callee := Callee.builtin Builtin.append, args := #[s, x], argTypes := #[t, t] })
    (v u : Value) (hs : a.eval s = v) (hx : a.eval x = u) {v' : Value} {w' : World} (hrun : ∀ ty, (Builtin.append_ #[t, t] ty #[v, u]).run P w = .ok v' w') (hK : K (a.put o.dst v') w') :
    if Region.wanted o (yielded ops a.tmps) = true then Oper.wp P o a w K Q else E := by
  have hw : Region.wanted o (yielded ops a.tmps) = true := by simp [Region.wanted, hg]
  rw [if_pos hw]
  have hr := hrun o.type
  unfold Oper.wp
  simp [execOp, hop, resolve, invoke, builtin, hs, hx, hr, Result.andThen]
  exact hK
theorem box_app {W w1 : World} {B0 B sz : Nat} {t e : TypeId} {v v' : Value} {k m : Nat} {xs ys : List Value} {tmp : Obj}
    (hv : Boxed W B t v) (hte : t ≠ e) (hrow : W.ownsRow B0 e sz v k xs) (hown' : w1.ownsRow B0 e sz v' m ys) (hgrow : (W.alloc tmp).grownBy w1 v.ownBlock) :
    Boxed w1 B t v ∧ Boxed (w1.setCell ⟨B, 0, none⟩ v') B t v' ∧ (w1.setCell ⟨B, 0, none⟩ v').ownsRow B0 e sz v' m ys ∧ KeepsOthers W (w1.setCell ⟨B, 0, none⟩ v') ∧ Kept W w1 (fun i => v.ownBlock = some i) ∧ Kept W (w1.setCell ⟨B, 0, none⟩ v') (fun i => i = B ∨ v.ownBlock = some i) := by
  have hv1 : Boxed w1 B t v := (hv.alloc tmp).kept hgrow (hv.not_row hte hrow)
  have hk : Kept W w1 (fun i => v.ownBlock = some i) := (Kept.new (World.grownBy_alloc W tmp none) (fun i => v.ownBlock = some i)).trans (Kept.of hgrow (S := fun i => v.ownBlock = some i) (fun j e _ => e)) (fun _ _ e => e)
  refine ⟨hv1, hv1.set v', hown'.kept (grownBy_setCell' w1 B v') (.inr (hv1.not_row hte hown').symm), ?_, hk, ?_⟩
  · refine ((KeepsOthers.alloc W tmp).trans (KeepsOthers.of_grownBy hgrow fun j o ej hj => ?_)).trans (KeepsOthers.setCell _ _ _)
    rcases (hrow.alloc tmp).2 with ⟨rfl, _⟩ | ⟨g, cap, cur, rfl, _, hgb, _⟩
    · simp [Value.ownBlock] at ej
    · obtain rfl : g = j := by simpa [Value.ownBlock] using ej
      rw [hgb] at hj; cases hj; rfl
  · exact (hk.mono (fun _ _ e => .inr e)).trans (kept_setCell w1 B 0 v') (fun i _ e => .inl e)
theorem cell3_new (w : World) (x : Bg) (t : TypeId) : ∀ j u, (bgc x)[j]? = some u → (w.alloc (.cells (bgc x).toArray t)).cell? ((⟨w.heap.size, 0, none⟩ : Addr).add j) = some u := by
  intro j u hu
  rw [Addr.add_lit, Nat.zero_add, cell_row (heap_alloc_new w (.cells (bgc x).toArray t))]
  exact hu
theorem bgc_one (x : Bg) : ∀ u ∈ bgc x, u.oneCell' = true := by simp [bgc, Value.oneCell']
theorem bgs_snoc (xs : List Bg) (x : Bg) : bgs xs ++ bgc x = bgs (xs ++ [x]) := by rw [bgs_append]; simp [bgs]
/-- A booking appended to a row of one's own. -/
theorem app_bg {W : World} {B0 k : Nat} {v : Value} {xs : List Bg} (x : Bg) (hr : W.ownsRow B0 108 3 v k (bgs xs)) (hk : k + 1 ≤ 65536) (hB0 : B0 ≤ W.heap.size) :
    ∃ v' w3, (∀ ty, (Builtin.append_ #[32, 32] ty #[v, .slice (some ⟨W.heap.size, 0, none⟩) 1 1]).run Tryz.prog (W.alloc (.cells (bgc x).toArray 108)).drew = .ok v' w3) ∧ w3.ownsRow B0 108 3 v' (k + 1) (bgs (xs ++ [x])) ∧ (W.alloc (.cells (bgc x).toArray 108)).grownBy w3 v.ownBlock ∧ (v'.ownBlock = v.ownBlock ∨ v'.ownBlock = some (W.heap.size + 1)) := by
  obtain ⟨i0, hi0, hz0, hz1, hz2⟩ := info_parts Tryz.info108
  have hro : (W.alloc (.cells (bgc x).toArray 108)).drew.ownsRow B0 108 3 v k (bgs xs) := hr.alloc _
  have H := fun ty => run_append_own_at (P := Tryz.prog) (W.alloc (.cells (bgc x).toArray 108)).drew B0 32 ty 108 i0 (.agg #[.int .u32 0, .int .i64 0, .int .i64 0]) 3 24 Tryz.underlying32 hi0 hz0 hz1 hz2 rfl (by decide) v k (bgs xs) hro ⟨W.heap.size, 0, none⟩ 1 1 (bgc x) rfl (cell3_new W x 108) (bgc_one x) (by unfold maxLen; omega) (by omega) (by show B0 ≤ (W.alloc _).heap.size; simp; omega)
  obtain ⟨v', w3, e1, e2, e3, e4, e5⟩ := H 0
  refine ⟨v', w3, fun ty => e1, by rw [← bgs_snoc]; exact e2, ?_⟩
  refine ⟨⟨e3.os, e3.tape, e3.output, e3.size, e3.block⟩, ?_⟩
  rw [show (W.alloc (.cells (bgc x).toArray 108)).drew.heap.size = W.heap.size + 1 from World.size_alloc ..] at e5
  exact e5
theorem own_keep {W W' : World} {b : Nat} {e : TypeId} {size n : Nat} {v : Value} {xs : List Value} (h : W.ownsRow b e size v n xs) (g : W.grownBy W' none) : W'.ownsRow b e size v n xs :=
  Ix.row_keep h (fun q hq => by obtain ⟨_, cur, hc⟩ := Ix.own_block h hq; exact g.block q (row_lt hc) (by simp))
theorem own_own_from {base size : Nat} {e : TypeId} {v : Value} {n : Nat} {xs : List Value} (B : Nat) : OwnFrom B (fun (_ : Unit) W => W.ownsRow base e size v n xs) := fun _ W W' row h hg hr => by
  refine h.kept hg ?_
  rcases h.2 with ⟨e, _⟩ | ⟨g, cap, cur, e, _, hgg, _⟩
  · exact Or.inl (by rw [e]; rfl)
  · refine Or.inr (fun e' => ?_)
    rw [e] at e'
    obtain ⟨_, o, ho, hc⟩ := hr g e'.symm
    rw [hgg] at ho
    cases ho
    cases hc
theorem box_own_from {t : TypeId} {v : Value} {b : Nat} (B : Nat) : OwnFrom B (fun (_ : Unit) W => Boxed W b t v) := fun _ W W' row h hg hr => h.kept hg (fun e => by
  obtain ⟨_, o, ho, hc⟩ := hr b e.symm
  rw [show W.heap[b]? = _ from h] at ho
  cases ho
  cases hc)
/-- Inside bookings, between two of them. -/
structure BiI (w W : World) (Bb Bl B0 b1 b2 : Nat) (p : Bp) (M : List (Nat × Int)) (R : List Bg) (pre : List (Nat × Int)) : Prop where
  row : ∃ v, Boxed W Bl 32 v ∧ W.ownsRow B0 108 3 v pre.length (bgs (pre.map fun y => rd R y.2.toNat)) ∧ ∀ k, v.ownBlock = some k → k < b1 ∨ b2 ≤ k
  bx : Boxed W Bb 27 (.pointer (some ⟨p.b, 0, none⟩))
  fd : Fd W p.b p.sg p.ip M R
  gr : w.grownBy W none
  sz : b2 ≤ W.heap.size
theorem Fd.lts {w : World} {b sg : Nat} {ip : Ix.Ip} {M : List (Nat × Int)} {R : List Bg} (h : Fd w b sg ip M R) : b < w.heap.size ∧ sg < w.heap.size ∧ ∀ i, ip.own i → i < w.heap.size := ⟨h.blt, row_lt h.row, by obtain ⟨lo, h3⟩ := h.ix; exact h3.lt⟩
theorem BiI.own_from {w : World} {Bb Bl B0 b1 b2 B : Nat} {p : Bp} {M : List (Nat × Int)} {R : List Bg} (hB : w.heap.size ≤ B) (hb : p.b < B ∧ p.sg < B ∧ ∀ i, p.ip.own i → i < B) : OwnFrom B (fun pre W => BiI w W Bb Bl B0 b1 b2 p M R pre) := fun pre W W' row h hg hr => by
  obtain ⟨v, h1, h2, h3⟩ := h.row
  refine ⟨⟨v, box_own_from B () W W' row h1 hg hr, own_own_from B () W W' row h2 hg hr, h3⟩, box_own_from B () W W' row h.bx hg hr, ?_, grown_then h.gr hg (fun j e => Or.inl (Nat.le_trans hB (hr j e).1)), Nat.le_trans h.sz hg.size⟩
  exact h.fd.far (Kept.of hg (S := fun i => B ≤ i) (fun j e _ => (hr j e).1)) (by omega) (by omega) (fun i hi => by have := hb.2.2 i hi; omega)
theorem make_cap (n : Nat) (h : n ≤ 4096) (w : World) : (Instr.makeSlice 32 (.int .i64 0) (.int .i64 (n : Int))).run Tryz.prog w = .ok (.slice (some ⟨w.heap.size, 0, none⟩) 0 n) (w.alloc (.cells (bgs (List.replicate n ⟨0, 0, 0⟩)).toArray 108)) := by
  obtain ⟨i0, hi, hz0, hz1, hz2⟩ := info_parts Tryz.info108
  rw [run_make (P := Tryz.prog) (w := w) 32 108 i0 (.agg #[.int .u32 0, .int .i64 0, .int .i64 0]) Tryz.underlying32 hi hz0 .i64 .i64 0 (n : Int) (by omega) (by omega) (by rw [hz2]; omega) (by omega), hz1]
  simp [bgs_zero, Value.cells]
set_option maxRecDepth 100000 in
set_option maxHeartbeats 4000000 in
theorem bookings_any {w : World} {p : Bp} {S : Sb} {K : Nat} (h : BkAt w p S K) (hw : S.Wk) : Calls Tryz.prog 67 #[.pointer (some ⟨p.b, 0, none⟩)] w fun e w' => ∃ v, e = .returned v ∧ w'.ownsRow w.heap.size 108 3 v S.L.length (bgs S.L) ∧ w.grownBy w' none := by
  have HN := hide (h.then (grown_alloc w (.cells #[.pointer (some ⟨p.b, 0, none⟩)] 27))).isNone
  have HL := hide (h.then (grown_alloc w (.cells #[.pointer (some ⟨p.b, 0, none⟩)] 27))).len
  obtain ⟨Lb, R, M, E, T, N, B, C, h, hR, hN⟩ := h
  have hMl : M.length = S.L.length := by rw [hR.m, mx_length]
  have hM0 : M.length ≤ 65536 := by have := hw.few; have := hw.b1; omega
  have hMr : (M.map fun y => rd R y.2.toNat) = S.L := by
    rw [hR.m]
    unfold mx
    rw [List.map_map]
    conv => rhs; rw [← List.map_id S.L]
    apply List.map_congr_left
    intro y hy
    simp [rd, hR.rw y hy]
  have hmk := make_cap S.L.length (by have := hw.few; have := hw.b1; omega)
  have hb8 := (h.then (grown_alloc w (.cells #[.pointer (some ⟨p.b, 0, none⟩)] 27))).cells 8 _ rfl
  have hlen : S.L.length ≤ 4096 := by have := hw.few; have := hw.b1; omega
  obtain ⟨w1, hw1⟩ : ∃ w1, w1 = ((w.alloc (.cells #[.pointer (some ⟨p.b, 0, none⟩)] 27)).alloc (.cells (bgs (List.replicate S.L.length ⟨0, 0, 0⟩)).toArray 108)).alloc (.cells #[.slice (some ⟨w.heap.size + 1, 0, none⟩) 0 S.L.length] 32) := ⟨_, rfl⟩
  have g1 : w.grownBy w1 none := by rw [hw1]; exact gn_alloc (gn_alloc (gn_alloc (grown_refl _ _) _) _) _
  have b1 : Boxed w1 w.heap.size 27 (.pointer (some ⟨p.b, 0, none⟩)) := by rw [hw1]; exact ((Boxed.new w 27 _).alloc _).alloc _
  have b2 : Boxed w1 (w.heap.size + 1 + 1) 32 (.slice (some ⟨w.heap.size + 1, 0, none⟩) 0 S.L.length) := by
    have := Boxed.new ((w.alloc (.cells #[.pointer (some ⟨p.b, 0, none⟩)] 27)).alloc (.cells (bgs (List.replicate S.L.length ⟨0, 0, 0⟩)).toArray 108)) 32 (.slice (some ⟨w.heap.size + 1, 0, none⟩) 0 S.L.length)
    simp only [World.size_alloc] at this
    rw [hw1]; exact this
  have r1 : w1.ownsRow w.heap.size 108 3 (.slice (some ⟨w.heap.size + 1, 0, none⟩) 0 S.L.length) 0 [] := by
    refine ⟨by simp, Or.inr ⟨w.heap.size + 1, S.L.length, (bgs (List.replicate S.L.length ⟨0, 0, 0⟩)).toArray, rfl, by omega, ?_, Nat.zero_le _, by unfold maxLen; omega, by simp [bgs_length], by simp⟩⟩
    rw [hw1]
    have h0 := heap_alloc_new (w.alloc (.cells #[.pointer (some ⟨p.b, 0, none⟩)] 27)) (.cells (bgs (List.replicate S.L.length ⟨0, 0, 0⟩)).toArray 108)
    rw [World.size_alloc] at h0
    exact ((grown_alloc _ _).block _ (row_lt h0) (by simp)).trans h0
  have s1 : w1.heap.size = w.heap.size + 3 := by rw [hw1]; simp
  have c18 : w1.cell? ⟨p.b, 8, none⟩ = some (.pointer (some ⟨p.ip.x, 0, none⟩)) := (h.then g1).cells 8 _ rfl
  have HA : Hid (Calls Tryz.prog 90 #[.pointer (some ⟨p.ip.x, 0, none⟩)] w1 fun e w' => ∃ v, e = .returned v ∧ Ix.AllV w' w1.heap.size v M ∧ w1.grownBy w' none) := by
    obtain ⟨lo, h3⟩ := (h.then g1).ix
    exact Ix.all_io h3
  have v10 := b1.cell
  have HF1 := hide (h.then g1).fd
  have H1 := hide (And.intro g1 (And.intro b1 (And.intro b2 (And.intro r1 s1))))
  have HM := hide (And.intro hM0 (And.intro hMr (And.intro hMl h.mi)))
  have HW1 := hide hw1
  have hrb : R.length ≤ 1024 := h.fd.rb
  have HP00 := hide h.fd.lts
  clear h hR hN hw g1 b1 b2 r1 s1 hM0 hMr hMl hw1
  generalize hn : S.L.length = n at *
  have HNL := hide hn
  clear hn
  refine (callsIn_wide (n := 6)).1 (callsIn_of_wp_marks Tryz.func67 rfl trivial ?_ rfl)
  simp only [Tryz.ntmps67, List.size_toArray, List.length_cons, List.length_nil, Nat.reduceAdd, Nat.reduceSub, Array.replicate_succ, Array.replicate_zero, List.push_toArray, List.append_toArray, List.nil_append, List.cons_append]
  refine wpIn_wide.2 ?_
  go_wp2_with fail
  refine HN.out.mono ?_
  rintro e wa ⟨rfl, rfl⟩
  go_wp2_with fail
  refine HL.out.mono ?_
  rintro e wa ⟨rfl, rfl⟩
  go_wp2_with (rw [← HW1.out])
  refine HA.out.mono ?_
  rintro e w2 ⟨v, rfl, ⟨B, so, cap, rfl, hI, hB0, hso⟩, g2⟩
  have hz2 := g2.size
  have s1 := H1.out.2.2.2.2
  have I0 : Hid (BiI w w2 w.heap.size (w.heap.size + 1 + 1) w.heap.size w1.heap.size w2.heap.size p M R []) := ⟨⟨_, H1.out.2.2.1.kept g2 (by simp), own_keep H1.out.2.2.2.1 g2, fun k hk => .inl (by have e : some (w.heap.size + 1) = some k := hk; have := Option.some.inj e; omega)⟩, H1.out.2.1.kept g2 (by simp), HF1.out.then g2, grown_trans H1.out.1 g2, Nat.le_refl _⟩
  have HI := hide (And.intro hI (And.intro hB0 hso))
  have HQ : Hid (∀ i, vbk B so M.length i → w1.heap.size ≤ i ∧ i < w2.heap.size) := by
    intro i hi
    refine ⟨?_, ItE_lt hI i hi⟩
    rcases hi with rfl | ⟨-, a, ha, rfl⟩
    · exact hB0
    · exact hso a ha
  have HB : Hid (p.b < w2.heap.size ∧ p.sg < w2.heap.size ∧ ∀ i, p.ip.own i → i < w2.heap.size) := (HF1.out.then g2).lts
  have HP0 : Hid (p.b < w.heap.size ∧ p.sg < w.heap.size ∧ ∀ i, p.ip.own i → i < w.heap.size) := HP00.out
  clear hI hB0 hso HA HN HL HW1 hmk hb8 c18 HP00
  go_wp2
  refine (wpIn_wide (n := 6)).1 (wpIn_range_V (w := w2) rfl (by decide) (gf := 125) (lb := #[.pointer (some ⟨B, 0, none⟩)]) rfl trivial (enters_of Tryz.func125 (by kernel_rfl) rfl)
    (encs := Ix.encE) (Kp := KpB (vbk B so M.length)) (V := fun pre x _ => pre ++ [x] <+: M) (S := fun ys => ys = M)
    (fun W hW => Ix.ix_seqV _ 5 (by decide) B so cap M HM.out.1 (fun _ _ k h => ItE_keep h k) W (HI.out.1.grown hW))
    (fun h k => h.trans k) (fun W l o hl => KpB.put (fun hq => by have := (HQ.out l hq).2; omega)) (fun W W' _ hg => KpB.new hg) (fun _ => rfl)
    (fun pre => fun _ _ _ _ h _ _ => h)
    (fun pre W => BiI w W w.heap.size (w.heap.size + 1 + 1) w.heap.size w1.heap.size w2.heap.size p M R pre) (fun _ _ _ => False)
    (BiI.own_from (by omega) HB.out) (fun _ _ _ _ _ h _ _ => h) I0.out
    (fun x a' _ => a' = { tmps := #[Value.pointer (some ⟨p.b, 0, none⟩), Value.pointer (some ⟨w.heap.size, 0, none⟩), Value.slice none 0 0, Value.pointer (some ⟨w.heap.size + 1 + 1, 0, none⟩), undef, Value.int IntKind.i64 x.2, Value.pointer (some ⟨p.b, 0, none⟩), Value.bool false, Value.pointer (some ⟨p.b, 0, none⟩), Value.pointer (some ⟨p.b, 0, none⟩), Value.pointer (some ⟨p.b, 8, none⟩), Value.pointer (some ⟨p.ip.x, 0, none⟩), Value.int IntKind.i64 (n : Int), Value.slice (some ⟨w.heap.size + 1, 0, none⟩) 0 n, Value.pointer (some ⟨p.b, 0, none⟩), Value.pointer (some ⟨p.b, 0, none⟩), Value.pointer (some ⟨p.b, 8, none⟩), Value.pointer (some ⟨p.ip.x, 0, none⟩), Value.func (Fn.func 125) #[] #[Value.pointer (some ⟨B, 0, none⟩)], Value.int IntKind.u32 (x.1 : Int), Value.int IntKind.i64 x.2, undef, undef, undef, undef, undef, undef, undef, undef, undef, undef, undef], defers := [] }) (fun x => fun _ _ _ _ h _ _ => h) ?assign ?body ?done (fun _ _ _ _ _ h _ => h.elim))
  case assign =>
    intro l pre x W K hI hV hK
    simp only [Ix.encE]
    gi_wp2
    exact hK _ _ (grown_refl _ _) rfl
  case body =>
    rintro l pre ⟨x1, x2⟩ a' W hI hV rfl
    have hmem : (x1, x2) ∈ M := hV.subset (by simp)
    have hpl : pre.length + 1 ≤ M.length := by have := hV.length_le; simpa using this
    obtain ⟨s0, s9⟩ := HM.out.2.2.2 _ hmem
    simp only at s0 s9
    obtain ⟨s, rfl⟩ : ∃ s : Nat, x2 = (s : Int) := ⟨x2.toNat, by omega⟩
    simp only [Int.toNat_natCast] at s9
    obtain ⟨v, hb2, hr2, hq2⟩ := hI.row
    have hM0 := HM.out.1
    obtain ⟨v', w3, hrun, hown, hgr, hob⟩ := app_bg (rd R s) hr2 (by omega) (Nat.le_trans hI.gr.size (Nat.le_refl _))
    obtain ⟨q1, q2, q3, q4, q5, q6⟩ := box_app hb2 (by decide) hr2 hown hgr
    have hrow1 : ∀ k, v.ownBlock = some k → w.heap.size ≤ k ∧ ∃ cur : Array Value, W.heap[k]? = some (.cells cur 108 (0, 0)) := fun k hk => by
      obtain ⟨h1, cur, h2⟩ := Ix.own_block hr2 hk; exact ⟨h1, cur, h2⟩
    have hBb : ¬ w.heap.size = w.heap.size + 1 + 1 := by omega
    have hbl : p.b < w.heap.size + 0 ∨ True := .inr trivial
    have hlt := HB.out
    have hne1 : ∀ i, i < w.heap.size → ¬ (i = w.heap.size + 1 + 1 ∨ v.ownBlock = some i) := by
      rintro i hi (e | e)
      · omega
      · have := (hrow1 i e).1; omega
    have hfl := HP0.out
    have fd3 : Fd w3 p.b p.sg p.ip M R := hI.fd.far q5 (fun e => hne1 _ hfl.1 (.inr e)) (fun e => hne1 _ hfl.2.1 (.inr e)) (fun i hi e => hne1 _ (hfl.2.2 i hi) (.inr e))
    have fd4 : Fd (w3.setCell ⟨w.heap.size + 1 + 1, 0, none⟩ v') p.b p.sg p.ip M R := hI.fd.far q6 (hne1 _ hfl.1) (hne1 _ hfl.2.1) (fun i hi => hne1 _ (hfl.2.2 i hi))
    have hbx : ∀ k, v.ownBlock = some k → k ≠ w.heap.size := fun k hk e => by
      obtain ⟨-, cur, hc⟩ := hrow1 k hk
      have h2 : W.heap[w.heap.size]? = _ := hI.bx
      rw [e, h2] at hc
      cases hc
    have bx3 : Boxed w3 w.heap.size 27 (.pointer (some ⟨p.b, 0, none⟩)) := q5.at hI.bx (fun e => hbx _ e rfl)
    have bx4 : Boxed (w3.setCell ⟨w.heap.size + 1 + 1, 0, none⟩ v') w.heap.size 27 (.pointer (some ⟨p.b, 0, none⟩)) := q6.at hI.bx (by
      rintro (e | e)
      · omega
      · exact hbx _ e rfl)
    have hkp : KpB (vbk B so M.length) W (w3.setCell ⟨w.heap.size + 1 + 1, 0, none⟩ v') := KpB.of q6 (by
      intro i hi
      have h2 := (HQ.out i hi).1
      rintro (e | e)
      · omega
      · have h3 := (HQ.out i hi).2
        have := hq2 i e
        omega)
    have HZZ : Hid (∀ a', ownPostG w2.heap.size (KpB (vbk B so M.length)) (fun pre W => BiI w W w.heap.size (w.heap.size + 1 + 1) w.heap.size w1.heap.size w2.heap.size p M R pre) (fun _ _ _ => False) (pre ++ [(x1, (s : Int))]) W .normal a' (w3.setCell ⟨w.heap.size + 1 + 1, 0, none⟩ v')) := by
      intro a'
      refine ⟨q4.from _, hkp, ⟨⟨v', q2, ?_⟩, bx4, fd4, ?_, Nat.le_trans hI.sz q6.size⟩⟩
      · rw [List.length_append, List.map_append]
        refine ⟨q3, fun k hk => ?_⟩
        rcases hob with e | e
        · exact hq2 k (by rw [← e]; exact hk)
        · rw [e] at hk
          have := Option.some.inj hk
          have := hI.sz
          exact .inr (by omega)
      · refine Kept.grown (((Kept.new hI.gr (fun i => w.heap.size ≤ i)).trans q6 ?_)) (fun i hi e => by omega)
        rintro i hi (e | e)
        · omega
        · exact (hrow1 _ e).1
    obtain ⟨vo, vcap, rfl, -⟩ := Ix.own_form hr2
    obtain ⟨vo', vcap', rfl, -⟩ := Ix.own_form hown
    have hS : ∀ W', Fd W' p.b p.sg p.ip M R → Boxed W' w.heap.size 27 (.pointer (some ⟨p.b, 0, none⟩)) → W'.cell? ⟨w.heap.size, 0, none⟩ = some (.pointer (some ⟨p.b, 0, none⟩)) ∧ W'.cell? ⟨p.b, 7, none⟩ = some (.slice (some ⟨p.sg, 0, none⟩) R.length R.length) ∧ W'.cell? ⟨p.sg, s * 3, none⟩ = some (.int .u32 ((rd R s).i : Int)) ∧ W'.cell? ⟨p.sg, s * 3 + 1, none⟩ = some (.int .i64 ((rd R s).s : Int)) ∧ W'.cell? ⟨p.sg, s * 3 + 2, none⟩ = some (.int .i64 (rd R s).u) := fun W' h1 h2 => ⟨h2.cell, h1.cells.1, h1.seat s9⟩
    have gA : W.grownBy (W.alloc (.cells (bgc (rd R s)).toArray 108)).drew none := gn_drew (grown_alloc W _)
    have HK0 := hide (hS W.drew (hI.fd.then (grown_drew W none)) (hI.bx.kept (grown_drew W none) (by simp)))
    have HK1 := hide (hS _ (hI.fd.then gA) (hI.bx.kept gA (by simp)))
    have HK2 := hide (hS w3 fd3 bx3)
    have HK3 := hide (hS _ fd4 bx4)
    have HRun := hide hrun
    have l0 : W.cell? ⟨w.heap.size + 1 + 1, 0, none⟩ = some (.slice vo pre.length vcap) := hb2.cell
    have l1 : (W.alloc (.cells (bgc (rd R s)).toArray 108)).cell? ⟨w.heap.size + 1 + 1, 0, none⟩ = some (.slice vo pre.length vcap) := (grown_alloc W _).cell hb2.cell (by simp)
    have l2 : w3.cell? ⟨w.heap.size + 1 + 1, 0, none⟩ = some (.slice vo pre.length vcap) := q1.cell
    have l3 := q1.frozen
    clear hS gA hrun hgr hown hob q1 q2 q3 q4 q5 q6 fd3 fd4 bx3 bx4 hbx hne1 hrow1 hkp hI hb2 hr2 hq2 hfl hlt hbl hmem hV
    generalize rd R s = x at *
    obtain ⟨xi, xs, xu⟩ := x
    simp only [bgc] at *
    gi_wp2
    refine wpIn_round_held (S := (fun W => W.cell? ⟨w.heap.size, 0, none⟩ = some (.pointer (some ⟨p.b, 0, none⟩)) ∧ W.cell? ⟨p.b, 7, none⟩ = some (.slice (some ⟨p.sg, 0, none⟩) R.length R.length) ∧ W.cell? ⟨p.sg, s * 3, none⟩ = some (.int .u32 (xi : Int)) ∧ W.cell? ⟨p.sg, s * 3 + 1, none⟩ = some (.int .i64 (xs : Int)) ∧ W.cell? ⟨p.sg, s * 3 + 2, none⟩ = some (.int .i64 xu))) (by kernel_rfl) (by kernel_rfl) (by rintro ⟨_, _, h⟩; exact h) ?_ (fun hHeld => ?_)
    · (exact HK0.out)
    refine tkQ 1 (oi := ⟨some 22, .load 27 (.tmp 1), 27, "book.go:227", #[], none⟩) rfl ?_
    try simp only [Act.put, pA, pB, pC]
    refine tkQ 2 (oi := ⟨some 23, .nilCheck (.tmp 22), 0, "book.go:227", #[⟨1, .data⟩], none⟩) rfl ?_
    try simp only [Act.put, pA, pB, pC]
    refine tkQ 3 (oi := ⟨some 24, .fieldAddr 37 (.tmp 23) 5, 0, "book.go:227", #[⟨2, .data⟩], none⟩) rfl ?_
    try simp only [Act.put, pA, pB, pC]
    refine tkQ 4 (oi := ⟨some 25, .load 32 (.tmp 24), 32, "book.go:227", #[⟨3, .data⟩], none⟩) rfl ?_
    try simp only [Act.put, pA, pB, pC]
    refine tkQ 5 (oi := ⟨some 26, .move (.tmp 5), 3, "book.go:227", #[], none⟩) rfl ?_
    try simp only [Act.put, pA, pB, pC]
    refine tkQ 6 (oi := ⟨some 27, .indexAddr 32 (.tmp 25) (.tmp 26), 0, "book.go:227", #[⟨4, .data⟩, ⟨5, .data⟩], none⟩) rfl ?_
    try simp only [Act.put, pA, pB, pC]
    refine tkQ 7 (oi := ⟨some 28, .load 108 (.tmp 27), 108, "book.go:227", #[⟨6, .data⟩], none⟩) rfl ?_
    try simp only [Act.put, pA, pB, pC]
    refine wpAnyH_ready (rs := [0, 8]) (by kernel_rfl) (by simp) ?_
    refine AllReadyH.cons (o := { dst := some 21, op := Go.Op.load 32 (Go.Operand.tmp 3), type := 32, pos := "book.go:227", after := #[], guard := none }) rfl (fun K hK => ?_) ?_
    · skip
      go_simp
      refine hK.out _ _ ?_ (fun hHeld => ?_)
      · ((try dsimp only); first | exact HK0.out | exact HK1.out | exact HK2.out | exact HK3.out)
      clear hK K
      try simp only [Act.put, pA, pB, pC]
      refine rdH (i := 8) rfl (fun K hK => ?_)
      go_simp
      refine hK.out _ _ ?_ (fun hHeld => ?_)
      · ((try dsimp only); first | exact HK0.out | exact HK1.out | exact HK2.out | exact HK3.out)
      clear hK K
      try simp only [Act.put, pA, pB, pC]
      refine rdH (i := 9) rfl (fun K hK => ?_)
      refine step_append_run (by rfl) _ _ _ (by rfl) _ _ (by rfl) (by rfl) HRun.out ?_
      refine hK.out _ _ ?_ (fun hHeld => ?_)
      · ((try dsimp only); first | exact HK0.out | exact HK1.out | exact HK2.out | exact HK3.out)
      clear hK K
      try simp only [Act.put, pA]
      refine rdH (i := 10) rfl (fun K hK => ?_)
      go_simp
      refine hK.out _ _ ?_ (fun hHeld => ?_)
      · ((try dsimp only); first | exact HK0.out | exact HK1.out | exact HK2.out | exact HK3.out)
      clear hK K
      try simp only [Act.put, pA, pB, pC]
      refine wpAnyH_done (by kernel_rfl) ?_ _
      gi_wp2
      exact HZZ.out _
    refine AllReadyH.cons (o := { dst := some 29, op := Go.Op.buildSlice 32 1 #[(0, Go.Operand.tmp 28)], type := 32, pos := "book.go:227", after := #[{ on := 7, ground := Go.Ground.data }], guard := none }) rfl (fun K hK => ?_) ?_
    · skip
      go_simp
      refine hK.out _ _ ?_ (fun hHeld => ?_)
      · ((try dsimp only); first | exact HK0.out | exact HK1.out | exact HK2.out | exact HK3.out)
      clear hK K
      try simp only [Act.put, pA, pB, pC]
      refine rdH (i := 0) rfl (fun K hK => ?_)
      go_simp
      refine hK.out _ _ ?_ (fun hHeld => ?_)
      · ((try dsimp only); first | exact HK0.out | exact HK1.out | exact HK2.out | exact HK3.out)
      clear hK K
      try simp only [Act.put, pA, pB, pC]
      refine rdH (i := 9) rfl (fun K hK => ?_)
      refine step_append_run (by rfl) _ _ _ (by rfl) _ _ (by rfl) (by rfl) HRun.out ?_
      refine hK.out _ _ ?_ (fun hHeld => ?_)
      · ((try dsimp only); first | exact HK0.out | exact HK1.out | exact HK2.out | exact HK3.out)
      clear hK K
      try simp only [Act.put, pA]
      refine rdH (i := 10) rfl (fun K hK => ?_)
      go_simp
      refine hK.out _ _ ?_ (fun hHeld => ?_)
      · ((try dsimp only); first | exact HK0.out | exact HK1.out | exact HK2.out | exact HK3.out)
      clear hK K
      try simp only [Act.put, pA, pB, pC]
      refine wpAnyH_done (by kernel_rfl) ?_ _
      gi_wp2
      exact HZZ.out _
    exact AllReadyH.nil
  case done =>
    rintro D ys W hD rfl hI hK
    obtain ⟨v, hb2, hr2, -⟩ := hI.row
    obtain ⟨vo, vcap, rfl, -⟩ := Ix.own_form hr2
    have l0 : W.cell? ⟨w.heap.size + 1 + 1, 0, none⟩ = some (.slice vo ys.length vcap) := hb2.cell
    have HX := hide (And.intro hI (And.intro hr2 hK))
    clear hI hb2 hr2 hK
    go_wp2
    obtain ⟨hI, hr2, hK⟩ := HX.out
    refine ⟨by simp, .inl ⟨_, _, rfl, run_takeDeferred hK, ?_⟩⟩
    have hf2 := ownsRow_putObj hr2 (.deferred none) hK rfl
    rw [HM.out.2.1] at hf2
    refine ⟨_, results_tmp rfl _ _ _, _, rfl, ?_, ?_⟩
    · have e := HM.out.2.2.1
      rw [← e]
      exact hf2
    · exact grown_then hI.gr (grownBy_putObj' _ D _) (fun j e => by cases e; exact Or.inl (by omega))
/-- What goes through X, its blocks from B0 on. -/
def VlV (w : World) (B0 : Nat) (v : Value) (X : List Bg) : Prop := ∃ B so cap, v = .func (.func 145) #[] #[.pointer (some ⟨B, 0, none⟩)] ∧ ItB w B so cap X ∧ ∀ i, vbk B so X.length i → B0 ≤ i
theorem VlV.then {w w' : World} {B0 : Nat} {v : Value} {X : List Bg} (h : VlV w B0 v X) (g : w.grownBy w' none) : VlV w' B0 v X := by
  obtain ⟨B, so, cap, h1, h2, h3⟩ := h
  exact ⟨B, so, cap, h1, h2.grown g, h3⟩
theorem VlV.far {w w' : World} {B0 : Nat} {v : Value} {X : List Bg} {Z : Nat → Prop} (h : VlV w B0 v X) (k : Kept w w' Z) (hZ : ∀ i, B0 ≤ i → i < w.heap.size → ¬ Z i) : VlV w' B0 v X := by
  obtain ⟨B, so, cap, h1, h2, h3⟩ := h
  have hl := h2.lt
  have hk : KpB (vbk B so X.length) w w' := ⟨k.size, fun i hi hlt => k.block i hlt (hZ i (h3 i hi) hlt)⟩
  exact ⟨B, so, cap, h1, h2.keep hk, h3⟩
theorem values_any {w : World} {B0 : Nat} {v : Value} {X : List Bg} (h : w.ownsRow B0 108 3 v X.length (bgs X)) (hB : B0 ≤ w.heap.size) : Calls Tryz.prog 114 #[v] w fun e w' => ∃ u, e = .returned u ∧ VlV w' B0 u X ∧ w.grownBy w' none := by
  have hmf : ∀ (fn : Fn) (first cap : Array Value) (w : World), (Instr.makeFunc fn first cap).run Tryz.prog w = .ok (.func fn first cap) w := fun _ _ _ _ => rfl
  obtain ⟨vo, vcap, rfl, hle⟩ := Ix.own_form h
  have HX : Hid (∀ W, W = w.alloc (.cells #[.slice vo X.length vcap] 32) → VlV W B0 (.func (.func 145) #[] #[.pointer (some ⟨w.heap.size, 0, none⟩)]) X ∧ w.grownBy W none) := by
    intro W hW
    have g : w.grownBy W none := by rw [hW]; exact grown_alloc _ _
    refine ⟨⟨w.heap.size, vo, vcap, rfl, ⟨by rw [hW]; exact heap_alloc_new w _, hle, fun i hi => ?_⟩, ?_⟩, g⟩
    · obtain ⟨q, c, cur, e1, e2, e3, e4, e5, e6, e7⟩ := Ix.own_row h (by omega)
      cases e1
      obtain ⟨b1, b2, b3⟩ := bgs_get hi
      exact ⟨q, rfl, g.cell (Ix.own_cell e3 e7 b1) (by simp), g.cell (Ix.own_cell e3 e7 b2) (by simp), g.cell (Ix.own_cell e3 e7 b3) (by simp)⟩
    · rintro i (rfl | ⟨hn, a, ha, rfl⟩)
      · exact hB
      · obtain ⟨q, c, cur, e1, e2, -⟩ := Ix.own_row h (by omega)
        cases e1
        cases ha
        exact e2
  clear h
  go_enter Tryz.func114, Tryz.ntmps114
  go_wp2
  go_ret
  exact ⟨_, rfl, HX.out _ rfl⟩
theorem all_any {w : World} {p : Bp} {S : Sb} {K : Nat} (h : BkAt w p S K) (hw : S.Wk) : Calls Tryz.prog 78 #[.pointer (some ⟨p.b, 0, none⟩)] w fun e w' => ∃ u, e = .returned u ∧ VlV w' w.heap.size u S.L ∧ w.grownBy w' none := by
  have HB := hide (bookings_any h hw)
  clear h
  go_enter Tryz.func78, Tryz.ntmps78
  go_wp2_with fail
  refine HB.out.mono ?_
  rintro e w1 ⟨v, rfl, h1, h2⟩
  have HV := hide (values_any h1 h2.size)
  have HG := hide h2
  clear h1 h2 HB
  go_wp2_with fail
  refine HV.out.mono ?_
  rintro e w2 ⟨u, rfl, h3, h4⟩
  have HF := hide (And.intro h3 (grown_trans HG.out h4))
  clear h3 h4 HV HG
  go_wp2
  go_ret
  exact ⟨u, rfl, HF.out⟩
end Go.Proofs.YtinkkocleognbaaGreatDoor
/- What an iterator tells, gathered. -/
namespace Go.Proofs.YtinkkocleognbaaGreatDoor
open Go.RowKit Go.Shelf
attribute [local go_sem ↓] Go.wp_at_zero Go.wp_at_succ
attribute [local go_sem] Oper.semAt_some
theorem cells_own_from {cs : Array Value} {t : TypeId} {f : Nat × Nat} {b : Nat} (B : Nat) : OwnFrom B (fun (_ : Unit) W => W.heap[b]? = some (.cells cs t f)) := fun _ W W' row h hg hr => (hg.block b (row_lt h) (fun e => by
  obtain ⟨_, o, ho, hc⟩ := hr b e.symm
  rw [h] at ho
  cases ho
  cases hc)).trans h
theorem own_base {W : World} {b b' : Nat} {e : TypeId} {size n : Nat} {v : Value} {xs : List Value} (h : W.ownsRow b e size v n xs) (hb : b' ≤ b) : W.ownsRow b' e size v n xs := by
  refine ⟨h.1, ?_⟩
  rcases h.2 with h2 | ⟨g, cap, cur, h2, h3, h4⟩
  · exact .inl h2
  · exact .inr ⟨g, cap, cur, h2, Nat.le_trans hb h3, h4⟩
/-- Inside told, between two of them. -/
structure ToI (w W : World) (pre : List Bg) : Prop where
  row : ∃ v, Boxed W w.heap.size 32 v ∧ W.ownsRow (w.heap.size + 1) 108 3 v pre.length (bgs pre)
  gr : w.grownBy W none
  sz : w.heap.size + 1 ≤ W.heap.size
theorem ToI.own_from {w : World} {B : Nat} (hB : w.heap.size ≤ B) : OwnFrom B (fun pre W => ToI w W pre) := fun pre W W' row h hg hr => by
  obtain ⟨v, h1, h2⟩ := h.row
  exact ⟨⟨v, box_own_from B () W W' row h1 hg hr, own_own_from B () W W' row h2 hg hr⟩, grown_then h.gr hg (fun j e => Or.inl (Nat.le_trans hB (hr j e).1)), Nat.le_trans h.sz hg.size⟩
end Go.Proofs.YtinkkocleognbaaGreatDoor
/- A copy of a book. -/
namespace Go.Proofs.YtinkkocleognbaaGreatDoor
open Go.RowKit Go.Shelf
attribute [local go_sem ↓] Go.wp_at_zero Go.wp_at_succ
attribute [local go_sem] Oper.semAt_some
section
variable {w w' W W' : World} {p q : Bp} {S : Sb} {K : Nat}
theorem row_cells {w : World} {b : Nat} {e : TypeId} {size n : Nat} {v : Value} {xs : List Value} (h : w.ownsRow b e size v n xs) {i : Nat} (hi : v.ownBlock = some i) : ∃ o : Obj, w.heap[i]? = some o ∧ o.isCells = true := by
  obtain ⟨-, cur, hc⟩ := Ix.own_block h hi
  exact ⟨_, hc, rfl⟩
/-- A book's blocks are cells, but for its two maps. -/
theorem BkAt.ctl (h : BkAt w p S K) : ∀ i, p.own i → (∃ o : Obj, w.heap[i]? = some o ∧ o.isCells = true) ∨ i = p.hp.mb ∨ i = p.hm := by
  obtain ⟨Lb, R, M, E, T, N, B, C, h, -⟩ := h
  rintro i ⟨k, (⟨-, rfl⟩ | ⟨-, rfl⟩ | ⟨-, rfl⟩ | ⟨-, hi⟩ | ⟨-, rfl⟩ | ⟨-, rfl⟩ | ⟨-, hi⟩ | ⟨-, rfl⟩)⟩
  · exact .inl ⟨_, h.head, rfl⟩
  · exact .inl ⟨_, h.var, rfl⟩
  · exact .inl ⟨_, h.row, rfl⟩
  · obtain ⟨lo, st, SS, h1, -⟩ := h.ix
    rcases hi with rfl | rfl
    · exact .inl ⟨_, h1.at_.head, rfl⟩
    · exact .inl ⟨_, h1.at_.row, rfl⟩
  · obtain ⟨WW, cap, cur, h1, h2, -⟩ := h.set; exact .inl ⟨_, h1, rfl⟩
  · obtain ⟨WW, cap, cur, h1, h2, -⟩ := h.set; exact .inl ⟨_, h2, rfl⟩
  · rcases hi with rfl | hi | hi | rfl
    · exact .inl ⟨_, h.due.at_.head, rfl⟩
    · exact .inl (row_cells h.due.at_.ent hi)
    · exact .inl (row_cells h.due.at_.lst hi)
    · exact .inr (.inl rfl)
  · exact .inr (.inr rfl)
/-- The maps lie below B. -/
def Bp.Lo (p : Bp) (B : Nat) : Prop := p.hp.mb < B ∧ p.hm < B
theorem Bst.lo {B : Nat} (h : Bst w w' p q) (hl : p.Lo B) : q.Lo B := ⟨by rw [h.mb]; exact hl.1, by rw [h.hm]; exact hl.2⟩
theorem BkAt.ctl_no {B : Nat} (h : BkAt w p S K) (hl : p.Lo B) {i : Nat} {o : Obj} (hB : B ≤ i) (ho : w.heap[i]? = some o) (hc : o.isCells = false) : ¬ p.own i := fun e => by
  rcases h.ctl i e with ⟨o', h1, h2⟩ | h1 | h1
  · rw [ho] at h1; cases h1; rw [hc] at h2; cases h2
  · have := hl.1; omega
  · have := hl.2; omega
theorem Bst.keeps {B : Nat} (h : Bst w w' p q) (hb : BkAt w p S K) (hl : p.Lo B) : KeepsFrom B w w' :=
  ⟨h.kept.size, fun _k _o hk ho hc => h.kept.at ho (hb.ctl_no hl hk ho hc)⟩
theorem BkAt.own_from {B : Nat} (hl : p.Lo B) : OwnFrom B (fun (_ : Unit) W => BkAt W p S K) := fun _ W W' row h hg hr =>
  h.far (X := fun i => row = some i) (Kept.of hg (fun j e _ => e)) (fun i hi e => by
    obtain ⟨h1, o, h2, h3⟩ := hr i e
    exact h.ctl_no hl h1 h2 h3 hi)
end
/-- The copy, without bookings yet. -/
structure Cp0 (w W : World) (S : Sb) (Bc : Nat) (q : Bp) : Prop where
  bk : BkAt W q { S with L := [] } 0
  bx : Boxed W Bc 27 (.pointer (some ⟨q.b, 0, none⟩))
  gr : w.grownBy W none
  own : ∀ i, q.own i → w.heap.size ≤ i
  nb : ¬ q.own Bc
  lo : w.heap.size ≤ Bc
theorem Cp0.drew {w W : World} {S : Sb} {Bc : Nat} {q : Bp} (h : Cp0 w W S Bc q) : Cp0 w W.drew S Bc q := ⟨h.bk.then (grown_drew _ none), h.bx.kept (grown_drew _ none) (by simp), gn_drew h.gr, h.own, h.nb, h.lo⟩
theorem cp0_a {w w1 : World} {S : Sb} {q : Bp} (h1 : BkAt w1 q { S with L := [] } 0) (h2 : w.grownBy w1 none) (h3 : ∀ i, q.own i → w.heap.size ≤ i) : Cp0 w (w1.alloc (.cells #[.pointer (some ⟨q.b, 0, none⟩)] 27)) S w1.heap.size q :=
  ⟨h1.then (grown_alloc _ _), Boxed.new w1 27 _, gn_alloc h2 _, h3, fun e => Nat.lt_irrefl _ (h1.lt _ e), h2.size⟩
theorem cp0_b {w w1 : World} {S : Sb} {q : Bp} (h1 : BkAt w1 q { S with L := [] } 0) (h2 : (w.alloc (.cells #[.pointer none] 27)).grownBy w1 none) (h3 : ∀ i, q.own i → w.heap.size + 1 ≤ i) : Cp0 w (w1.setCell ⟨w.heap.size, 0, none⟩ (.pointer (some ⟨q.b, 0, none⟩))) S w.heap.size q := by
  have hb : Boxed w1 w.heap.size 27 (.pointer none) := (Boxed.new w 27 _).kept h2 (by simp)
  have hn : ¬ q.own w.heap.size := fun e => by have := h3 _ e; omega
  exact ⟨h1.far (kept_setCell w1 w.heap.size 0 _) (fun i hi e => hn (by rw [← e]; exact hi)), hb.set _, gn_set (grown_trans (grown_alloc w _) h2) (Nat.le_refl _), fun i hi => by have := h3 i hi; omega, hn, Nat.le_refl _⟩
/-- Inside Copy, between two bookings. -/
structure CoI (w W : World) (S : Sb) (Bc b1 b2 : Nat) (b : Nat) (pre : List Bg) : Prop where
  bk : ∃ q : Bp, q.b = b ∧ BkAt W q { S with L := pre } pre.length ∧ q.Lo b1 ∧ (∀ i, q.own i → (w.heap.size ≤ i ∧ i < b1) ∨ b2 ≤ i) ∧ ¬ q.own Bc
  bx : Boxed W Bc 27 (.pointer (some ⟨b, 0, none⟩))
  gr : w.grownBy W none
  sz : b2 ≤ W.heap.size
theorem Bp.Lo.mono {p : Bp} {a b : Nat} (h : p.Lo a) (hab : a ≤ b) : p.Lo b := ⟨Nat.lt_of_lt_of_le h.1 hab, Nat.lt_of_lt_of_le h.2 hab⟩
theorem CoI.own_from {w : World} {S : Sb} {Bc b1 b2 b : Nat} (hB : w.heap.size ≤ b2) (h12 : b1 ≤ b2) : OwnFrom b2 (fun pre W => CoI w W S Bc b1 b2 b pre) := fun pre W W' row h hg hr => by
  obtain ⟨q, e, h1, h2, h3, h4⟩ := h.bk
  exact ⟨⟨q, e, BkAt.own_from (h2.mono h12) () W W' row h1 hg hr, h2, h3, h4⟩, box_own_from b2 () W W' row h.bx hg hr, grown_then h.gr hg (fun j e => Or.inl (Nat.le_trans hB (hr j e).1)), Nat.le_trans h.sz hg.size⟩
theorem pre_facts {L pre : List Bg} {x : Bg} (h : pre ++ [x] <+: L) (hA : AscB L) (hO : OneS L) : x ∈ L ∧ (∀ y ∈ pre, y.i < x.i) ∧ sat pre x.s = none ∧ pre.Sublist L ∧ pre.length + 1 ≤ L.length := by
  have h1 := h.sublist
  have hA' : AscB (pre ++ [x]) := List.Pairwise.sublist h1 hA
  have hO' : OneS (pre ++ [x]) := List.Pairwise.sublist h1 hO
  unfold AscB at hA'
  unfold OneS at hO'
  rw [List.pairwise_append] at hA' hO'
  refine ⟨h.subset (by simp), fun y hy => hA'.2.2 y hy x (by simp), sat_none.2 (fun y hy => hO'.2.2 y hy x (by simp)), (List.sublist_append_left _ _).trans h1, by have := h.length_le; simpa using this⟩
set_option maxRecDepth 100000 in
set_option maxHeartbeats 8000000 in
theorem copy_any {w : World} {p : Bp} {S : Sb} {K : Nat} (h : BkAt w p S K) (hw : S.Wk) : Calls Tryz.prog 42 #[.pointer (some ⟨p.b, 0, none⟩)] w fun e w' => ∃ q : Bp, e = .returned (.pointer (some ⟨q.b, 0, none⟩)) ∧ BkAt w' q S 4096 ∧ w.grownBy w' none ∧ (∀ i, q.own i → w.heap.size ≤ i) := by
  have HN := hide h.isNone
  have hz0 : 0 < w.heap.size := by have := h.lt _ ⟨0, Bp.r0⟩; omega
  have HE : Hid (∀ W, w.grownBy W none → Calls Tryz.prog 72 #[.agg #[.int .i64 (S.a : Int), .int .i64 (S.b : Int), .int .i64 (S.c : Int)], .int .u32 (S.n : Int), .int .i64 S.t] W fun e w' => ∃ q, e = .returned (.pointer (some ⟨q.b, 0, none⟩)) ∧ BkAt w' q { S with L := [] } 0 ∧ W.grownBy w' none ∧ (∀ i, q.own i → W.heap.size ≤ i)) := by
    intro W hg
    have a0 := hw.a0
    have a1 := hw.a1
    have b0 := hw.b0
    have b1 := hw.b1
    have c0 := hw.c0
    have c1 := hw.c1
    exact empty_any S.a S.b S.c S.n S.t (by unfold Gx.OkS; omega) W (by have := hg.size; omega)
  have HA : Hid (∀ W, w.grownBy W none → Calls Tryz.prog 78 #[.pointer (some ⟨p.b, 0, none⟩)] W fun e w' => ∃ u, e = .returned u ∧ VlV w' W.heap.size u S.L ∧ W.grownBy w' none) := fun W hg => all_any (h.then hg) hw
  have HS : Hid (∀ W, w.grownBy W none → W.cell? ⟨p.b, 0, none⟩ = some (.int .i64 (S.a : Int)) ∧ W.cell? ⟨p.b, 1, none⟩ = some (.int .i64 (S.b : Int)) ∧ W.cell? ⟨p.b, 2, none⟩ = some (.int .i64 (S.c : Int)) ∧ W.cell? ⟨p.b, 4, none⟩ = some (.int .u32 (S.n : Int)) ∧ W.cell? ⟨p.b, 5, none⟩ = some (.int .i64 S.t)) := by
    intro W hg
    have h1 := h.then hg
    exact ⟨h1.cells 0 _ rfl, h1.cells 1 _ rfl, h1.cells 2 _ rfl, h1.cells 4 _ rfl, h1.cells 5 _ rfl⟩
  have HW := hide hw
  have hL4 : S.L.length ≤ 4096 := by have := hw.few; have := hw.b1; omega
  clear h hw
  refine (callsIn_wide (n := 6)).1 (callsIn_of_wp_marks Tryz.func42 rfl trivial ?_ rfl)
  simp only [Tryz.ntmps42, List.size_toArray, List.length_cons, List.length_nil, Nat.reduceAdd, Nat.reduceSub, Array.replicate_succ, Array.replicate_zero, List.push_toArray, List.append_toArray, List.nil_append, List.cons_append]
  refine wpIn_wide.2 ?_
  go_wp2_with fail
  refine HN.out.mono ?_
  rintro e wa ⟨rfl, hwa⟩
  obtain rfl := hwa.symm
  go_wp2
  go_cut [3] from 7 to 20 (fun v W => ∃ Bc q, v = .pointer (some ⟨Bc, 0, none⟩) ∧ Hid (Cp0 w W S Bc q))
  case first =>
    go_region_held3 (fun W => W.cell? ⟨p.b, 0, none⟩ = some (.int .i64 (S.a : Int)) ∧ W.cell? ⟨p.b, 1, none⟩ = some (.int .i64 (S.b : Int)) ∧ W.cell? ⟨p.b, 2, none⟩ = some (.int .i64 (S.c : Int)) ∧ W.cell? ⟨p.b, 4, none⟩ = some (.int .u32 (S.n : Int)) ∧ W.cell? ⟨p.b, 5, none⟩ = some (.int .i64 S.t))
      (first | with_reducible assumption | exact HS.out _ (grown_drew w none) | exact HS.out _ (gn_drew (grown_alloc w _)) | exact HS.out _ (gn_alloc G1.out _) | exact HS.out _ (gn_set (grown_trans (grown_alloc w _) G2.out) (Nat.le_refl _)))
      ((first
        | (go_at_call 72; have hq := HE.out _ (grown_drew w none); with_reducible refine hq.mono ?_; clear hq; rintro e w1 ⟨q, rfl, k1, k2, k3⟩; have G1 := hide (grown_trans (grown_drew w none) k2); have hK1 := HS.out w1 G1.out; have HQ := hide (And.intro k1 k3); clear k1 k2 k3)
        | (go_at_call 72; have hq := HE.out _ (gn_drew (grown_alloc w (.cells #[.pointer none] 27))); refine hq.mono ?_; clear hq; rintro e w1 ⟨q, rfl, k1, k2, k3⟩; have G2 := hide (grown_trans (grown_drew (w.alloc (.cells #[.pointer none] 27)) none) k2); have hK1 := HS.out w1 (grown_trans (grown_alloc w _) G2.out); have HQ := hide (And.intro k1 k3); clear k1 k2 k3; have hbx : Boxed w1 w.heap.size 27 (.pointer none) := (Boxed.new w 27 _).kept G2.out (by simp); have v0 := hbx.cell; have v1 := hbx.frozen)))
    all_goals
      go_wp2
      go_meet
      case rel =>
        first
          | exact ⟨_, q, rfl, cp0_a HQ.out.1 G1.out HQ.out.2⟩
          | exact ⟨_, q, rfl, cp0_b HQ.out.1 G2.out (fun i hi => by have := HQ.out.2 i hi; simpa using this)⟩
  case rest =>
  obtain ⟨Bc, q, rfl, HC⟩ := hcut
  have HA' := hide (HA.out wc HC.out.gr)
  clear HA HE HS HN
  go_wp2_with fail
  refine HA'.out.mono ?_
  rintro e w3 ⟨u, rfl, ⟨B, so, cap, rfl, hI, hBq⟩, g3⟩
  have hz3 := g3.size
  have hgw := HC.out.gr.size
  have HQ : Hid (∀ i, vbk B so S.L.length i → wc.heap.size ≤ i ∧ i < w3.heap.size) := fun i hi => ⟨hBq i hi, hI.lt i hi⟩
  have hlo : q.Lo wc.heap.size := ⟨HC.out.bk.lt _ ⟨6, Bp.r6 (.inr (.inr (.inr rfl)))⟩, HC.out.bk.lt _ ⟨7, Bp.r7⟩⟩
  have I0 : Hid (CoI w w3 S Bc wc.heap.size w3.heap.size q.b []) := ⟨⟨q, rfl, HC.out.bk.then g3, hlo, fun i hi => .inl ⟨HC.out.own i hi, HC.out.bk.lt i hi⟩, HC.out.nb⟩, HC.out.bx.kept g3 (by simp), grown_trans HC.out.gr g3, Nat.le_refl _⟩
  have hBc : Bc < wc.heap.size := HC.out.bx.lt
  have hBc2 := HC.out.lo
  have HI := hide hI
  clear hI hBq HA' HC hlo g3
  go_wp2
  refine (wpIn_wide (n := 6)).1 (wpIn_range_V (w := w3) rfl (by decide) (gf := 145) (lb := #[.pointer (some ⟨B, 0, none⟩)]) rfl trivial (enters_of Tryz.func145 (by kernel_rfl) rfl)
    (encs := encB) (Kp := KpB (vbk B so S.L.length)) (V := fun pre x _ => pre ++ [x] <+: S.L) (S := fun ys => ys = S.L)
    (fun W hW => vt_seqV 5 (by decide) B so cap S.L (by omega) W (HI.out.grown hW))
    (fun h k => h.trans k) (fun W l o hl => KpB.put (fun hq => by have := (HQ.out l hq).2; omega)) (fun W W' _ hg => KpB.new hg) (fun _ => rfl)
    (fun pre => fun _ _ _ _ h _ _ => h)
    (fun pre W => CoI w W S Bc wc.heap.size w3.heap.size q.b pre) (fun _ _ _ => False)
    (CoI.own_from (by omega) hz3) (fun _ _ _ _ _ h _ _ => h) I0.out
    (fun x a' W => ∃ F, a' = { tmps := #[Value.pointer (some ⟨p.b, 0, none⟩), undef, Value.pointer none, Value.pointer (some ⟨Bc, 0, none⟩), Value.pointer (some ⟨F, 0, none⟩), Value.pointer (some ⟨p.b, 0, none⟩), Value.bool false, u7, u8, u9, u10, u11, u12, u13, u14, u15, u16, u17, u18, u19, u20, Value.pointer (some ⟨p.b, 0, none⟩), Value.func (Fn.func 145) #[] #[Value.pointer (some ⟨B, 0, none⟩)], bgV x, undef, undef, undef, undef], defers := [] } ∧ W.heap[F]? = some (.cells (bgc x).toArray 108 (0, 0)))
    (fun x => fun a' W W' row h hg hr => by obtain ⟨F, h1, h2⟩ := h; exact ⟨F, h1, cells_own_from w3.heap.size () W W' row h2 hg hr⟩) ?assign ?body ?done (fun _ _ _ _ _ h _ => h.elim))
  case assign =>
    rintro l pre ⟨xi, xs, xu⟩ W K hI hV hK
    simp only [encB, bgV]
    gi_wp2
    exact hK _ _ (grown_alloc W _) ⟨W.heap.size, rfl, heap_alloc_new W _⟩
  case body =>
    rintro l pre x a' W hI hV ⟨F, rfl, hF⟩
    obtain ⟨p1, p2, p3, p4, p5⟩ := pre_facts hV HW.out.asc HW.out.one
    obtain ⟨r, e, r1, r2, r3, r4⟩ := hI.bk
    have hwk : Sb.Wk { S with L := pre } := HW.out.sub p4 HW.out.t0 HW.out.t1
    have hx1 := HW.out.id x p1
    have hn1 := HW.out.n1
    have hxs := HW.out.st x p1
    have hfew := HW.out.few
    have hcall := add_any r1 hwk (by omega) x (by omega) hxs p2 p3 (show pre.length < S.b by omega)
    rw [e] at hcall
    have HCall : Hid (Calls Tryz.prog 79 #[.pointer (some ⟨q.b, 0, none⟩), bgV x] W fun e w' => e = .returned (.tuple #[]) ∧ ∀ a', ownPostG w3.heap.size (KpB (vbk B so S.L.length)) (fun pre W => CoI w W S Bc wc.heap.size w3.heap.size q.b pre) (fun _ _ _ => False) (pre ++ [x]) W .normal a' w') := by
      refine hcall.mono ?_
      rintro e1 w' ⟨rfl, r', k1, k2⟩
      refine ⟨rfl, fun a' => ⟨k2.keeps r1 (r2.mono hz3), KpB.of k2.kept (fun i hi e2 => ?_), ⟨⟨r', k2.b.trans e, by rw [List.length_append]; exact k1, k2.lo r2, fun i hi => ?_, fun e2 => ?_⟩, k2.kept.at hI.bx r4, ?_, Nat.le_trans hI.sz k2.kept.size⟩⟩⟩
      · have h1 := HQ.out i hi
        rcases r3 i e2 with h2 | h2 <;> omega
      · rcases k2.own i hi with h1 | h1
        · exact r3 i h1
        · exact .inr (Nat.le_trans hI.sz h1)
      · rcases k2.own _ e2 with h1 | h1
        · exact r4 h1
        · have := hI.bx.lt; omega
      · refine Kept.grown (((Kept.new hI.gr (fun i => w.heap.size ≤ i)).trans k2.kept (fun i hi e2 => ?_))) (fun i hi e2 => by omega)
        rcases r3 i e2 with h2 | h2
        · exact h2.1
        · omega
    have l0 := hI.bx.cell
    obtain ⟨f0, f1, f2, -⟩ := box3 hF
    clear hcall hI hV hF p1 p2 p3 p4 p5 r1 r2 r3 r4 hwk hx1 hn1 hxs hfew e
    obtain ⟨xi, xs, xu⟩ := x
    unfold bgV at *
    simp only at *
    gi_wp2_with fail
    refine ⟨trivial, ?_⟩
    refine (CallsIn.inRound l (callsIn_wide.2 HCall.out)).mono ?_
    rintro e w' ⟨rfl, hz⟩
    have HZ := hide hz
    clear hz HCall
    gi_wp2
    exact HZ.out _
  case done =>
    rintro D ys W hD rfl hI hK
    have l0 := hI.bx.cell
    have HX := hide (And.intro hI hK)
    clear hI hK
    go_wp2
    obtain ⟨hI, hK⟩ := HX.out
    refine ⟨by simp, .inl ⟨_, _, rfl, run_takeDeferred hK, ?_⟩⟩
    obtain ⟨r, e, r1, r2, r3, r4⟩ := hI.bk
    refine ⟨_, results_tmp rfl _ _ _, r, by rw [e]; rfl, (r1.far (Kept.of (grownBy_putObj' W D _) (S := fun i => i = D) (fun j e _ => (Option.some.inj e).symm)) (fun i hi e2 => r1.ctl_no (r2.mono hz3) (i := D) hD hK rfl (by rw [← e2]; exact hi))).mono hL4, ?_, fun i hi => ?_⟩
    · exact grown_then hI.gr (grownBy_putObj' _ D _) (fun j e => by cases e; exact Or.inl (by omega))
    · rcases r3 i hi with h1 | h1 <;> omega
end Go.Proofs.YtinkkocleognbaaGreatDoor
