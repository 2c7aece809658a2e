/- Texts joined: BkI, BkJ, BkK, BkL, BkM, BkO, BkR, Rp1, GeRf. -/
import Derived.RangeFuncWrites
import Derived.Test.YtjfhilignbeboabGreatDoorJzAg
import Derived.ProofKit
import Derived.OpenShut
import Derived.Deep.DeepHandedRow
import Derived.Lib.LaidTab
import Derived.ChangeOld
import Derived.SizedLaws
import Derived.Test.YtjfhilignbeboabGreatDoorJzAf
import Derived.Test.YtjfhilignbeboabGreatDoorJzG
import Derived.Test.YtjfhilignbeboabGreatDoorJzAd
/- All bookings, gathered. -/
namespace Go.Proofs.YtjfhilignbeboabGreatDoor
open Go.RowKit Go.Shelf
attribute [local go_sem ↓] Go.wp_at_zero Go.wp_at_succ
attribute [local go_sem] Oper.semAt_some
/-- append, as one step of a region that draws, by its run. -/
theorem step_append_run {P : Program} {ops : Array Oper} {o : Oper} {a : Act} {w : World} {K : Act → World → Prop} {Q : Exit → Act → World → Prop} {E : Prop} (hg : o.guard = none) (s x : Operand) (t : TypeId) (hop : o.op = Op.call { callee := Callee.builtin Builtin.append, args := #[s, x], argTypes := #[t, t] })
    (v u : Value) (hs : a.eval s = v) (hx : a.eval x = u) {v' : Value} {w' : World} (hrun : ∀ ty, (Builtin.append_ #[t, t] ty #[v, u]).run P w = .ok v' w') (hK : K (a.put o.dst v') w') :
    if Region.wanted o (yielded ops a.tmps) = true then Oper.wp P o a w K Q else E := by
  have hw : Region.wanted o (yielded ops a.tmps) = true := by simp [Region.wanted, hg]
  rw [if_pos hw]
  have hr := hrun o.type
  unfold Oper.wp
  simp [execOp, hop, resolve, invoke, builtin, hs, hx, hr, Result.andThen]
  exact hK
theorem box_app {W w1 : World} {B0 B sz : Nat} {t e : TypeId} {v v' : Value} {k m : Nat} {xs ys : List Value} {tmp : Obj}
    (hv : Boxed W B t v) (hte : t ≠ e) (hrow : W.ownsRow B0 e sz v k xs) (hown' : w1.ownsRow B0 e sz v' m ys) (hgrow : (W.alloc tmp).grownBy w1 v.ownBlock) :
    Boxed w1 B t v ∧ Boxed (w1.setCell ⟨B, 0, none⟩ v') B t v' ∧ (w1.setCell ⟨B, 0, none⟩ v').ownsRow B0 e sz v' m ys ∧ KeepsOthers W (w1.setCell ⟨B, 0, none⟩ v') ∧ Kept W w1 (fun i => v.ownBlock = some i) ∧ Kept W (w1.setCell ⟨B, 0, none⟩ v') (fun i => i = B ∨ v.ownBlock = some i) := by
  have hv1 : Boxed w1 B t v := (hv.alloc tmp).kept hgrow (hv.not_row hte hrow)
  have hk : Kept W w1 (fun i => v.ownBlock = some i) := (Kept.new (World.grownBy_alloc W tmp none) (fun i => v.ownBlock = some i)).trans (Kept.of hgrow (S := fun i => v.ownBlock = some i) (fun j e _ => e)) (fun _ _ e => e)
  refine ⟨hv1, hv1.set v', hown'.kept (grownBy_setCell' w1 B v') (.inr (hv1.not_row hte hown').symm), ?_, hk, ?_⟩
  · refine ((KeepsOthers.alloc W tmp).trans (KeepsOthers.of_grownBy hgrow fun j o ej hj => ?_)).trans (KeepsOthers.setCell _ _ _)
    rcases (hrow.alloc tmp).2 with ⟨rfl, _⟩ | ⟨g, cap, cur, rfl, _, hgb, _⟩
    · simp [Value.ownBlock] at ej
    · obtain rfl : g = j := by simpa [Value.ownBlock] using ej
      rw [hgb] at hj; cases hj; rfl
  · exact (hk.mono (fun _ _ e => .inr e)).trans (kept_setCell w1 B 0 v') (fun i _ e => .inl e)
theorem cell3_new (w : World) (x : Bg) (t : TypeId) : ∀ j u, (bgc x)[j]? = some u → (w.alloc (.cells (bgc x).toArray t)).cell? ((⟨w.heap.size, 0, none⟩ : Addr).add j) = some u := by
  intro j u hu
  rw [Addr.add_lit, Nat.zero_add, cell_row (heap_alloc_new w (.cells (bgc x).toArray t))]
  exact hu
theorem bgc_one (x : Bg) : ∀ u ∈ bgc x, u.oneCell' = true := by simp [bgc, Value.oneCell']
theorem bgs_snoc (xs : List Bg) (x : Bg) : bgs xs ++ bgc x = bgs (xs ++ [x]) := by rw [bgs_append]; simp [bgs]
/-- A booking appended to a row of one's own. -/
theorem app_bg {W : World} {B0 k : Nat} {v : Value} {xs : List Bg} (x : Bg) (hr : W.ownsRow B0 34 3 v k (bgs xs)) (hk : k + 1 ≤ 65536) (hB0 : B0 ≤ W.heap.size) :
    ∃ v' w3, (∀ ty, (Builtin.append_ #[57, 57] ty #[v, .slice (some ⟨W.heap.size, 0, none⟩) 1 1]).run Tryz.prog (W.alloc (.cells (bgc x).toArray 34)).drew = .ok v' w3) ∧ w3.ownsRow B0 34 3 v' (k + 1) (bgs (xs ++ [x])) ∧ (W.alloc (.cells (bgc x).toArray 34)).grownBy w3 v.ownBlock ∧ (v'.ownBlock = v.ownBlock ∨ v'.ownBlock = some (W.heap.size + 1)) := by
  obtain ⟨i0, hi0, hz0, hz1, hz2⟩ := info_parts Tryz.info34
  have hro : (W.alloc (.cells (bgc x).toArray 34)).drew.ownsRow B0 34 3 v k (bgs xs) := hr.alloc _
  have H := fun ty => run_append_own_at (P := Tryz.prog) (W.alloc (.cells (bgc x).toArray 34)).drew B0 57 ty 34 i0 (.agg #[.int .u32 0, .int .i64 0, .int .i64 0]) 3 24 Tryz.underlying57 hi0 hz0 hz1 hz2 rfl (by decide) v k (bgs xs) hro ⟨W.heap.size, 0, none⟩ 1 1 (bgc x) rfl (cell3_new W x 34) (bgc_one x) (by unfold maxLen; omega) (by omega) (by show B0 ≤ (W.alloc _).heap.size; simp; omega)
  obtain ⟨v', w3, e1, e2, e3, e4, e5⟩ := H 0
  refine ⟨v', w3, fun ty => e1, by rw [← bgs_snoc]; exact e2, ?_⟩
  refine ⟨⟨e3.os, e3.tape, e3.output, e3.size, e3.block⟩, ?_⟩
  rw [show (W.alloc (.cells (bgc x).toArray 34)).drew.heap.size = W.heap.size + 1 from World.size_alloc ..] at e5
  exact e5
theorem own_keep {W W' : World} {b : Nat} {e : TypeId} {size n : Nat} {v : Value} {xs : List Value} (h : W.ownsRow b e size v n xs) (g : W.grownBy W' none) : W'.ownsRow b e size v n xs :=
  Ix.row_keep h (fun q hq => by obtain ⟨_, cur, hc⟩ := Ix.own_block h hq; exact g.block q (row_lt hc) (by simp))
theorem own_own_from {base size : Nat} {e : TypeId} {v : Value} {n : Nat} {xs : List Value} (B : Nat) : OwnFrom B (fun (_ : Unit) W => W.ownsRow base e size v n xs) := fun _ W W' row h hg hr => by
  refine h.kept hg ?_
  rcases h.2 with ⟨e, _⟩ | ⟨g, cap, cur, e, _, hgg, _⟩
  · exact Or.inl (by rw [e]; rfl)
  · refine Or.inr (fun e' => ?_)
    rw [e] at e'
    obtain ⟨_, o, ho, hc⟩ := hr g e'.symm
    rw [hgg] at ho
    cases ho
    cases hc
theorem box_own_from {t : TypeId} {v : Value} {b : Nat} (B : Nat) : OwnFrom B (fun (_ : Unit) W => Boxed W b t v) := fun _ W W' row h hg hr => h.kept hg (fun e => by
  obtain ⟨_, o, ho, hc⟩ := hr b e.symm
  rw [show W.heap[b]? = _ from h] at ho
  cases ho
  cases hc)
/-- Inside bookings, between two of them. -/
structure BiI (w W : World) (Bb Bl B0 b1 b2 : Nat) (p : Bp) (M : List (Nat × Int)) (R : List Bg) (pre : List (Nat × Int)) : Prop where
  row : ∃ v, Boxed W Bl 57 v ∧ W.ownsRow B0 34 3 v pre.length (bgs (pre.map fun y => rd R y.2.toNat)) ∧ ∀ k, v.ownBlock = some k → k < b1 ∨ b2 ≤ k
  bx : Boxed W Bb 26 (.pointer (some ⟨p.b, 0, none⟩))
  fd : Fd W p.b p.sg p.ip M R
  gr : w.grownBy W none
  sz : b2 ≤ W.heap.size
theorem Fd.lts {w : World} {b sg : Nat} {ip : Ix.Ip} {M : List (Nat × Int)} {R : List Bg} (h : Fd w b sg ip M R) : b < w.heap.size ∧ sg < w.heap.size ∧ ∀ i, ip.own i → i < w.heap.size := ⟨h.blt, row_lt h.row, by obtain ⟨lo, h3⟩ := h.ix; exact h3.lt⟩
theorem BiI.own_from {w : World} {Bb Bl B0 b1 b2 B : Nat} {p : Bp} {M : List (Nat × Int)} {R : List Bg} (hB : w.heap.size ≤ B) (hb : p.b < B ∧ p.sg < B ∧ ∀ i, p.ip.own i → i < B) : OwnFrom B (fun pre W => BiI w W Bb Bl B0 b1 b2 p M R pre) := fun pre W W' row h hg hr => by
  obtain ⟨v, h1, h2, h3⟩ := h.row
  refine ⟨⟨v, box_own_from B () W W' row h1 hg hr, own_own_from B () W W' row h2 hg hr, h3⟩, box_own_from B () W W' row h.bx hg hr, ?_, grown_then h.gr hg (fun j e => Or.inl (Nat.le_trans hB (hr j e).1)), Nat.le_trans h.sz hg.size⟩
  exact h.fd.far (Kept.of hg (S := fun i => B ≤ i) (fun j e _ => (hr j e).1)) (by omega) (by omega) (fun i hi => by have := hb.2.2 i hi; omega)
theorem make_cap (n : Nat) (h : n ≤ 4096) (w : World) : (Instr.makeSlice 57 (.int .i64 0) (.int .i64 (n : Int))).run Tryz.prog w = .ok (.slice (some ⟨w.heap.size, 0, none⟩) 0 n) (w.alloc (.cells (bgs (List.replicate n ⟨0, 0, 0⟩)).toArray 34)) := by
  obtain ⟨i0, hi, hz0, hz1, hz2⟩ := info_parts Tryz.info34
  rw [run_make (P := Tryz.prog) (w := w) 57 34 i0 (.agg #[.int .u32 0, .int .i64 0, .int .i64 0]) Tryz.underlying57 hi hz0 .i64 .i64 0 (n : Int) (by omega) (by omega) (by rw [hz2]; omega) (by omega), hz1]
  simp [bgs_zero, Value.cells]
set_option maxRecDepth 100000 in
set_option maxHeartbeats 4000000 in
theorem bookings_any {w : World} {p : Bp} {S : Sb} {K : Nat} (h : BkAt w p S K) (hw : S.Wk) : Calls Tryz.prog 16 #[.pointer (some ⟨p.b, 0, none⟩)] w fun e w' => ∃ v, e = .returned v ∧ w'.ownsRow w.heap.size 34 3 v S.L.length (bgs S.L) ∧ w.grownBy w' none := by
  have HN := hide (h.then (grown_alloc w (.cells #[.pointer (some ⟨p.b, 0, none⟩)] 26))).isNone
  have HL := hide (h.then (grown_alloc w (.cells #[.pointer (some ⟨p.b, 0, none⟩)] 26))).len
  obtain ⟨Lb, R, M, E, T, N, B, C, h, hR, hN⟩ := h
  have hMl : M.length = S.L.length := by rw [hR.m, mx_length]
  have hM0 : M.length ≤ 65536 := by have := hw.few; have := hw.b1; omega
  have hMr : (M.map fun y => rd R y.2.toNat) = S.L := by
    rw [hR.m]
    unfold mx
    rw [List.map_map]
    conv => rhs; rw [← List.map_id S.L]
    apply List.map_congr_left
    intro y hy
    simp [rd, hR.rw y hy]
  have hmk := make_cap S.L.length (by have := hw.few; have := hw.b1; omega)
  have hb8 := (h.then (grown_alloc w (.cells #[.pointer (some ⟨p.b, 0, none⟩)] 26))).cells 8 _ rfl
  have hlen : S.L.length ≤ 4096 := by have := hw.few; have := hw.b1; omega
  obtain ⟨w1, hw1⟩ : ∃ w1, w1 = ((w.alloc (.cells #[.pointer (some ⟨p.b, 0, none⟩)] 26)).alloc (.cells (bgs (List.replicate S.L.length ⟨0, 0, 0⟩)).toArray 34)).alloc (.cells #[.slice (some ⟨w.heap.size + 1, 0, none⟩) 0 S.L.length] 57) := ⟨_, rfl⟩
  have g1 : w.grownBy w1 none := by rw [hw1]; exact gn_alloc (gn_alloc (gn_alloc (grown_refl _ _) _) _) _
  have b1 : Boxed w1 w.heap.size 26 (.pointer (some ⟨p.b, 0, none⟩)) := by rw [hw1]; exact ((Boxed.new w 26 _).alloc _).alloc _
  have b2 : Boxed w1 (w.heap.size + 1 + 1) 57 (.slice (some ⟨w.heap.size + 1, 0, none⟩) 0 S.L.length) := by
    have := Boxed.new ((w.alloc (.cells #[.pointer (some ⟨p.b, 0, none⟩)] 26)).alloc (.cells (bgs (List.replicate S.L.length ⟨0, 0, 0⟩)).toArray 34)) 57 (.slice (some ⟨w.heap.size + 1, 0, none⟩) 0 S.L.length)
    simp only [World.size_alloc] at this
    rw [hw1]; exact this
  have r1 : w1.ownsRow w.heap.size 34 3 (.slice (some ⟨w.heap.size + 1, 0, none⟩) 0 S.L.length) 0 [] := by
    refine ⟨by simp, Or.inr ⟨w.heap.size + 1, S.L.length, (bgs (List.replicate S.L.length ⟨0, 0, 0⟩)).toArray, rfl, by omega, ?_, Nat.zero_le _, by unfold maxLen; omega, by simp [bgs_length], by simp⟩⟩
    rw [hw1]
    have h0 := heap_alloc_new (w.alloc (.cells #[.pointer (some ⟨p.b, 0, none⟩)] 26)) (.cells (bgs (List.replicate S.L.length ⟨0, 0, 0⟩)).toArray 34)
    rw [World.size_alloc] at h0
    exact ((grown_alloc _ _).block _ (row_lt h0) (by simp)).trans h0
  have s1 : w1.heap.size = w.heap.size + 3 := by rw [hw1]; simp
  have c18 : w1.cell? ⟨p.b, 8, none⟩ = some (.pointer (some ⟨p.ip.x, 0, none⟩)) := (h.then g1).cells 8 _ rfl
  have HA : Hid (Calls Tryz.prog 38 #[.pointer (some ⟨p.ip.x, 0, none⟩)] w1 fun e w' => ∃ v, e = .returned v ∧ Ix.AllV w' w1.heap.size v M ∧ w1.grownBy w' none) := by
    obtain ⟨lo, h3⟩ := (h.then g1).ix
    exact Ix.all_io h3
  have v10 := b1.cell
  have HF1 := hide (h.then g1).fd
  have H1 := hide (And.intro g1 (And.intro b1 (And.intro b2 (And.intro r1 s1))))
  have HM := hide (And.intro hM0 (And.intro hMr (And.intro hMl h.mi)))
  have HW1 := hide hw1
  have hrb : R.length ≤ 1024 := h.fd.rb
  have HP00 := hide h.fd.lts
  clear h hR hN hw g1 b1 b2 r1 s1 hM0 hMr hMl hw1
  generalize hn : S.L.length = n at *
  have HNL := hide hn
  clear hn
  refine (callsIn_wide (n := 6)).1 (callsIn_of_wp_marks Tryz.func16 rfl trivial ?_ rfl)
  simp only [Tryz.ntmps16, List.size_toArray, List.length_cons, List.length_nil, Nat.reduceAdd, Nat.reduceSub, Array.replicate_succ, Array.replicate_zero, List.push_toArray, List.append_toArray, List.nil_append, List.cons_append]
  refine wpIn_wide.2 ?_
  go_wp2_with fail
  refine HN.out.mono ?_
  rintro e wa ⟨rfl, rfl⟩
  go_wp2_with fail
  refine HL.out.mono ?_
  rintro e wa ⟨rfl, rfl⟩
  go_wp2_with (rw [← HW1.out])
  refine HA.out.mono ?_
  rintro e w2 ⟨v, rfl, ⟨B, so, cap, rfl, hI, hB0, hso⟩, g2⟩
  have hz2 := g2.size
  have s1 := H1.out.2.2.2.2
  have I0 : Hid (BiI w w2 w.heap.size (w.heap.size + 1 + 1) w.heap.size w1.heap.size w2.heap.size p M R []) := ⟨⟨_, H1.out.2.2.1.kept g2 (by simp), own_keep H1.out.2.2.2.1 g2, fun k hk => .inl (by have e : some (w.heap.size + 1) = some k := hk; have := Option.some.inj e; omega)⟩, H1.out.2.1.kept g2 (by simp), HF1.out.then g2, grown_trans H1.out.1 g2, Nat.le_refl _⟩
  have HI := hide (And.intro hI (And.intro hB0 hso))
  have HQ : Hid (∀ i, vbk B so M.length i → w1.heap.size ≤ i ∧ i < w2.heap.size) := by
    intro i hi
    refine ⟨?_, ItE_lt hI i hi⟩
    rcases hi with rfl | ⟨-, a, ha, rfl⟩
    · exact hB0
    · exact hso a ha
  have HB : Hid (p.b < w2.heap.size ∧ p.sg < w2.heap.size ∧ ∀ i, p.ip.own i → i < w2.heap.size) := (HF1.out.then g2).lts
  have HP0 : Hid (p.b < w.heap.size ∧ p.sg < w.heap.size ∧ ∀ i, p.ip.own i → i < w.heap.size) := HP00.out
  clear hI hB0 hso HA HN HL HW1 hmk hb8 c18 HP00
  go_wp2
  refine (wpIn_wide (n := 6)).1 (wpIn_range_V (w := w2) rfl (by decide) (gf := 66) (lb := #[.pointer (some ⟨B, 0, none⟩)]) rfl trivial (enters_of Tryz.func66 (by kernel_rfl) rfl)
    (encs := Ix.encE) (Kp := KpB (vbk B so M.length)) (V := fun pre x _ => pre ++ [x] <+: M) (S := fun ys => ys = M)
    (fun W hW => Ix.ix_seqV _ 5 (by decide) B so cap M HM.out.1 (fun _ _ k h => ItE_keep h k) W (HI.out.1.grown hW))
    (fun h k => h.trans k) (fun W l o hl => KpB.put (fun hq => by have := (HQ.out l hq).2; omega)) (fun W W' _ hg => KpB.new hg) (fun _ => rfl)
    (fun pre => fun _ _ _ _ h _ _ => h)
    (fun pre W => BiI w W w.heap.size (w.heap.size + 1 + 1) w.heap.size w1.heap.size w2.heap.size p M R pre) (fun _ _ _ => False)
    (BiI.own_from (by omega) HB.out) (fun _ _ _ _ _ h _ _ => h) I0.out
    (fun x a' _ => a' = { tmps := #[Value.pointer (some ⟨p.b, 0, none⟩), Value.pointer (some ⟨w.heap.size, 0, none⟩), Value.slice none 0 0, Value.pointer (some ⟨w.heap.size + 1 + 1, 0, none⟩), undef, Value.int IntKind.i64 x.2, Value.pointer (some ⟨p.b, 0, none⟩), Value.bool false, Value.pointer (some ⟨p.b, 0, none⟩), Value.pointer (some ⟨p.b, 0, none⟩), Value.pointer (some ⟨p.b, 8, none⟩), Value.pointer (some ⟨p.ip.x, 0, none⟩), Value.int IntKind.i64 (n : Int), Value.slice (some ⟨w.heap.size + 1, 0, none⟩) 0 n, Value.pointer (some ⟨p.b, 0, none⟩), Value.pointer (some ⟨p.b, 0, none⟩), Value.pointer (some ⟨p.b, 8, none⟩), Value.pointer (some ⟨p.ip.x, 0, none⟩), Value.func (Fn.func 66) #[] #[Value.pointer (some ⟨B, 0, none⟩)], Value.int IntKind.u32 (x.1 : Int), Value.int IntKind.i64 x.2, undef, undef, undef, undef, undef, undef, undef, undef, undef, undef, undef], defers := [] }) (fun x => fun _ _ _ _ h _ _ => h) ?assign ?body ?done (fun _ _ _ _ _ h _ => h.elim))
  case assign =>
    intro l pre x W K hI hV hK
    simp only [Ix.encE]
    gi_wp2
    exact hK _ _ (grown_refl _ _) rfl
  case body =>
    rintro l pre ⟨x1, x2⟩ a' W hI hV rfl
    have hmem : (x1, x2) ∈ M := hV.subset (by simp)
    have hpl : pre.length + 1 ≤ M.length := by have := hV.length_le; simpa using this
    obtain ⟨s0, s9⟩ := HM.out.2.2.2 _ hmem
    simp only at s0 s9
    obtain ⟨s, rfl⟩ : ∃ s : Nat, x2 = (s : Int) := ⟨x2.toNat, by omega⟩
    simp only [Int.toNat_natCast] at s9
    obtain ⟨v, hb2, hr2, hq2⟩ := hI.row
    have hM0 := HM.out.1
    obtain ⟨v', w3, hrun, hown, hgr, hob⟩ := app_bg (rd R s) hr2 (by omega) (Nat.le_trans hI.gr.size (Nat.le_refl _))
    obtain ⟨q1, q2, q3, q4, q5, q6⟩ := box_app hb2 (by decide) hr2 hown hgr
    have hrow1 : ∀ k, v.ownBlock = some k → w.heap.size ≤ k ∧ ∃ cur : Array Value, W.heap[k]? = some (.cells cur 34 (0, 0)) := fun k hk => by
      obtain ⟨h1, cur, h2⟩ := Ix.own_block hr2 hk; exact ⟨h1, cur, h2⟩
    have hBb : ¬ w.heap.size = w.heap.size + 1 + 1 := by omega
    have hbl : p.b < w.heap.size + 0 ∨ True := .inr trivial
    have hlt := HB.out
    have hne1 : ∀ i, i < w.heap.size → ¬ (i = w.heap.size + 1 + 1 ∨ v.ownBlock = some i) := by
      rintro i hi (e | e)
      · omega
      · have := (hrow1 i e).1; omega
    have hfl := HP0.out
    have fd3 : Fd w3 p.b p.sg p.ip M R := hI.fd.far q5 (fun e => hne1 _ hfl.1 (.inr e)) (fun e => hne1 _ hfl.2.1 (.inr e)) (fun i hi e => hne1 _ (hfl.2.2 i hi) (.inr e))
    have fd4 : Fd (w3.setCell ⟨w.heap.size + 1 + 1, 0, none⟩ v') p.b p.sg p.ip M R := hI.fd.far q6 (hne1 _ hfl.1) (hne1 _ hfl.2.1) (fun i hi => hne1 _ (hfl.2.2 i hi))
    have hbx : ∀ k, v.ownBlock = some k → k ≠ w.heap.size := fun k hk e => by
      obtain ⟨-, cur, hc⟩ := hrow1 k hk
      have h2 : W.heap[w.heap.size]? = _ := hI.bx
      rw [e, h2] at hc
      cases hc
    have bx3 : Boxed w3 w.heap.size 26 (.pointer (some ⟨p.b, 0, none⟩)) := q5.at hI.bx (fun e => hbx _ e rfl)
    have bx4 : Boxed (w3.setCell ⟨w.heap.size + 1 + 1, 0, none⟩ v') w.heap.size 26 (.pointer (some ⟨p.b, 0, none⟩)) := q6.at hI.bx (by
      rintro (e | e)
      · omega
      · exact hbx _ e rfl)
    have hkp : KpB (vbk B so M.length) W (w3.setCell ⟨w.heap.size + 1 + 1, 0, none⟩ v') := KpB.of q6 (by
      intro i hi
      have h2 := (HQ.out i hi).1
      rintro (e | e)
      · omega
      · have h3 := (HQ.out i hi).2
        have := hq2 i e
        omega)
    have HZZ : Hid (∀ a', ownPostG w2.heap.size (KpB (vbk B so M.length)) (fun pre W => BiI w W w.heap.size (w.heap.size + 1 + 1) w.heap.size w1.heap.size w2.heap.size p M R pre) (fun _ _ _ => False) (pre ++ [(x1, (s : Int))]) W .normal a' (w3.setCell ⟨w.heap.size + 1 + 1, 0, none⟩ v')) := by
      intro a'
      refine ⟨q4.from _, hkp, ⟨⟨v', q2, ?_⟩, bx4, fd4, ?_, Nat.le_trans hI.sz q6.size⟩⟩
      · rw [List.length_append, List.map_append]
        refine ⟨q3, fun k hk => ?_⟩
        rcases hob with e | e
        · exact hq2 k (by rw [← e]; exact hk)
        · rw [e] at hk
          have := Option.some.inj hk
          have := hI.sz
          exact .inr (by omega)
      · refine Kept.grown (((Kept.new hI.gr (fun i => w.heap.size ≤ i)).trans q6 ?_)) (fun i hi e => by omega)
        rintro i hi (e | e)
        · omega
        · exact (hrow1 _ e).1
    obtain ⟨vo, vcap, rfl, -⟩ := Ix.own_form hr2
    obtain ⟨vo', vcap', rfl, -⟩ := Ix.own_form hown
    have hS : ∀ W', Fd W' p.b p.sg p.ip M R → Boxed W' w.heap.size 26 (.pointer (some ⟨p.b, 0, none⟩)) → W'.cell? ⟨w.heap.size, 0, none⟩ = some (.pointer (some ⟨p.b, 0, none⟩)) ∧ W'.cell? ⟨p.b, 7, none⟩ = some (.slice (some ⟨p.sg, 0, none⟩) R.length R.length) ∧ W'.cell? ⟨p.sg, s * 3, none⟩ = some (.int .u32 ((rd R s).i : Int)) ∧ W'.cell? ⟨p.sg, s * 3 + 1, none⟩ = some (.int .i64 ((rd R s).s : Int)) ∧ W'.cell? ⟨p.sg, s * 3 + 2, none⟩ = some (.int .i64 (rd R s).u) := fun W' h1 h2 => ⟨h2.cell, h1.cells.1, h1.seat s9⟩
    have gA : W.grownBy (W.alloc (.cells (bgc (rd R s)).toArray 34)).drew none := gn_drew (grown_alloc W _)
    have HK0 := hide (hS W.drew (hI.fd.then (grown_drew W none)) (hI.bx.kept (grown_drew W none) (by simp)))
    have HK1 := hide (hS _ (hI.fd.then gA) (hI.bx.kept gA (by simp)))
    have HK2 := hide (hS w3 fd3 bx3)
    have HK3 := hide (hS _ fd4 bx4)
    have HRun := hide hrun
    have l0 : W.cell? ⟨w.heap.size + 1 + 1, 0, none⟩ = some (.slice vo pre.length vcap) := hb2.cell
    have l1 : (W.alloc (.cells (bgc (rd R s)).toArray 34)).cell? ⟨w.heap.size + 1 + 1, 0, none⟩ = some (.slice vo pre.length vcap) := (grown_alloc W _).cell hb2.cell (by simp)
    have l2 : w3.cell? ⟨w.heap.size + 1 + 1, 0, none⟩ = some (.slice vo pre.length vcap) := q1.cell
    have l3 := q1.frozen
    clear hS gA hrun hgr hown hob q1 q2 q3 q4 q5 q6 fd3 fd4 bx3 bx4 hbx hne1 hrow1 hkp hI hb2 hr2 hq2 hfl hlt hbl hmem hV
    generalize rd R s = x at *
    obtain ⟨xi, xs, xu⟩ := x
    simp only [bgc] at *
    gi_wp2
    refine wpIn_round_held (S := (fun W => W.cell? ⟨w.heap.size, 0, none⟩ = some (.pointer (some ⟨p.b, 0, none⟩)) ∧ W.cell? ⟨p.b, 7, none⟩ = some (.slice (some ⟨p.sg, 0, none⟩) R.length R.length) ∧ W.cell? ⟨p.sg, s * 3, none⟩ = some (.int .u32 (xi : Int)) ∧ W.cell? ⟨p.sg, s * 3 + 1, none⟩ = some (.int .i64 (xs : Int)) ∧ W.cell? ⟨p.sg, s * 3 + 2, none⟩ = some (.int .i64 xu))) (by kernel_rfl) (by kernel_rfl) (by rintro ⟨_, _, h⟩; exact h) ?_ (fun hHeld => ?_)
    · (exact HK0.out)
    refine tkH (i := 1) (v := ?_) rfl ?_ ?_
    rotate_left
    · (intro w hSw; (try dsimp only at hSw); (go_simp <;> with_reducible rfl))
    try simp only [Act.put, List.setIfInBounds_toArray]
    refine tkH (i := 2) (v := ?_) rfl ?_ ?_
    rotate_left
    · (intro w hSw; (try dsimp only at hSw); (go_simp <;> with_reducible rfl))
    try simp only [Act.put]
    refine tkH (i := 3) (v := ?_) rfl ?_ ?_
    rotate_left
    · (intro w hSw; (try dsimp only at hSw); (go_simp <;> with_reducible rfl))
    try simp only [Act.put]
    refine tkH (i := 4) (v := ?_) rfl ?_ ?_
    rotate_left
    · (intro w hSw; (try dsimp only at hSw); (go_simp <;> with_reducible rfl))
    try simp only [Act.put]
    refine tkH (i := 5) (v := ?_) rfl ?_ ?_
    rotate_left
    · (intro w hSw; (try dsimp only at hSw); (go_simp <;> with_reducible rfl))
    try simp only [Act.put]
    refine tkH (i := 6) (v := ?_) rfl ?_ ?_
    rotate_left
    · (intro w hSw; (try dsimp only at hSw); (go_simp <;> with_reducible rfl))
    try simp only [Act.put]
    refine tkH (i := 7) (v := ?_) rfl ?_ ?_
    rotate_left
    · (intro w hSw; (try dsimp only at hSw); (go_simp <;> with_reducible rfl))
    try simp only [Act.put]
    refine wpAnyH_ready (rs := [0, 8]) (by kernel_rfl) (by simp) ?_
    refine AllReadyH.cons rfl (fun K hK => ?_) ?_
    · skip
      go_simp
      refine hK.out _ _ ?_ (fun hHeld => ?_)
      · ((try dsimp only); first | exact HK0.out | exact HK1.out | exact HK2.out | exact HK3.out)
      clear hK K
      try simp only [Act.put, List.setIfInBounds_toArray, List.set_cons_zero, List.set_cons_succ]
      refine rdH (i := 8) rfl (fun K hK => ?_)
      go_simp
      refine hK.out _ _ ?_ (fun hHeld => ?_)
      · ((try dsimp only); first | exact HK0.out | exact HK1.out | exact HK2.out | exact HK3.out)
      clear hK K
      try simp only [Act.put, List.setIfInBounds_toArray, List.set_cons_zero, List.set_cons_succ]
      refine rdH (i := 9) rfl (fun K hK => ?_)
      refine step_append_run (by rfl) _ _ _ (by rfl) _ _ (by rfl) (by rfl) HRun.out ?_
      refine hK.out _ _ ?_ (fun hHeld => ?_)
      · ((try dsimp only); first | exact HK0.out | exact HK1.out | exact HK2.out | exact HK3.out)
      clear hK K
      try simp only [Act.put, List.setIfInBounds_toArray]
      refine rdH (i := 10) rfl (fun K hK => ?_)
      go_simp
      refine hK.out _ _ ?_ (fun hHeld => ?_)
      · ((try dsimp only); first | exact HK0.out | exact HK1.out | exact HK2.out | exact HK3.out)
      clear hK K
      try simp only [Act.put, List.setIfInBounds_toArray, List.set_cons_zero, List.set_cons_succ]
      refine wpAnyH_done (by kernel_rfl) ?_ _
      gi_wp2
      exact HZZ.out _
    refine AllReadyH.cons rfl (fun K hK => ?_) ?_
    · skip
      go_simp
      refine hK.out _ _ ?_ (fun hHeld => ?_)
      · ((try dsimp only); first | exact HK0.out | exact HK1.out | exact HK2.out | exact HK3.out)
      clear hK K
      try simp only [Act.put, List.setIfInBounds_toArray, List.set_cons_zero, List.set_cons_succ]
      refine rdH (i := 0) rfl (fun K hK => ?_)
      go_simp
      refine hK.out _ _ ?_ (fun hHeld => ?_)
      · ((try dsimp only); first | exact HK0.out | exact HK1.out | exact HK2.out | exact HK3.out)
      clear hK K
      try simp only [Act.put, List.setIfInBounds_toArray, List.set_cons_zero, List.set_cons_succ]
      refine rdH (i := 9) rfl (fun K hK => ?_)
      refine step_append_run (by rfl) _ _ _ (by rfl) _ _ (by rfl) (by rfl) HRun.out ?_
      refine hK.out _ _ ?_ (fun hHeld => ?_)
      · ((try dsimp only); first | exact HK0.out | exact HK1.out | exact HK2.out | exact HK3.out)
      clear hK K
      try simp only [Act.put, List.setIfInBounds_toArray]
      refine rdH (i := 10) rfl (fun K hK => ?_)
      go_simp
      refine hK.out _ _ ?_ (fun hHeld => ?_)
      · ((try dsimp only); first | exact HK0.out | exact HK1.out | exact HK2.out | exact HK3.out)
      clear hK K
      try simp only [Act.put, List.setIfInBounds_toArray, List.set_cons_zero, List.set_cons_succ]
      refine wpAnyH_done (by kernel_rfl) ?_ _
      gi_wp2
      exact HZZ.out _
    exact AllReadyH.nil
  case done =>
    rintro D ys W hD rfl hI hK
    obtain ⟨v, hb2, hr2, -⟩ := hI.row
    obtain ⟨vo, vcap, rfl, -⟩ := Ix.own_form hr2
    have l0 : W.cell? ⟨w.heap.size + 1 + 1, 0, none⟩ = some (.slice vo ys.length vcap) := hb2.cell
    have HX := hide (And.intro hI (And.intro hr2 hK))
    clear hI hb2 hr2 hK
    go_wp2
    obtain ⟨hI, hr2, hK⟩ := HX.out
    refine ⟨by simp, .inl ⟨_, _, rfl, run_takeDeferred hK, ?_⟩⟩
    have hf2 := ownsRow_putObj hr2 (.deferred none) hK rfl
    rw [HM.out.2.1] at hf2
    refine ⟨_, results_tmp rfl _ _ _, _, rfl, ?_, ?_⟩
    · have e := HM.out.2.2.1
      rw [← e]
      exact hf2
    · exact grown_then hI.gr (grownBy_putObj' _ D _) (fun j e => by cases e; exact Or.inl (by omega))
/-- What goes through X, its blocks from B0 on. -/
def VlV (w : World) (B0 : Nat) (v : Value) (X : List Bg) : Prop := ∃ B so cap, v = .func (.func 36) #[] #[.pointer (some ⟨B, 0, none⟩)] ∧ ItB w B so cap X ∧ ∀ i, vbk B so X.length i → B0 ≤ i
theorem VlV.then {w w' : World} {B0 : Nat} {v : Value} {X : List Bg} (h : VlV w B0 v X) (g : w.grownBy w' none) : VlV w' B0 v X := by
  obtain ⟨B, so, cap, h1, h2, h3⟩ := h
  exact ⟨B, so, cap, h1, h2.grown g, h3⟩
theorem VlV.far {w w' : World} {B0 : Nat} {v : Value} {X : List Bg} {Z : Nat → Prop} (h : VlV w B0 v X) (k : Kept w w' Z) (hZ : ∀ i, B0 ≤ i → i < w.heap.size → ¬ Z i) : VlV w' B0 v X := by
  obtain ⟨B, so, cap, h1, h2, h3⟩ := h
  have hl := h2.lt
  have hk : KpB (vbk B so X.length) w w' := ⟨k.size, fun i hi hlt => k.block i hlt (hZ i (h3 i hi) hlt)⟩
  exact ⟨B, so, cap, h1, h2.keep hk, h3⟩
theorem values_any {w : World} {B0 : Nat} {v : Value} {X : List Bg} (h : w.ownsRow B0 34 3 v X.length (bgs X)) (hB : B0 ≤ w.heap.size) : Calls Tryz.prog 15 #[v] w fun e w' => ∃ u, e = .returned u ∧ VlV w' B0 u X ∧ w.grownBy w' none := by
  have hmf : ∀ (fn : Fn) (first cap : Array Value) (w : World), (Instr.makeFunc fn first cap).run Tryz.prog w = .ok (.func fn first cap) w := fun _ _ _ _ => rfl
  obtain ⟨vo, vcap, rfl, hle⟩ := Ix.own_form h
  have HX : Hid (∀ W, W = w.alloc (.cells #[.slice vo X.length vcap] 57) → VlV W B0 (.func (.func 36) #[] #[.pointer (some ⟨w.heap.size, 0, none⟩)]) X ∧ w.grownBy W none) := by
    intro W hW
    have g : w.grownBy W none := by rw [hW]; exact grown_alloc _ _
    refine ⟨⟨w.heap.size, vo, vcap, rfl, ⟨by rw [hW]; exact heap_alloc_new w _, hle, fun i hi => ?_⟩, ?_⟩, g⟩
    · obtain ⟨q, c, cur, e1, e2, e3, e4, e5, e6, e7⟩ := Ix.own_row h (by omega)
      cases e1
      obtain ⟨b1, b2, b3⟩ := bgs_get hi
      exact ⟨q, rfl, g.cell (Ix.own_cell e3 e7 b1) (by simp), g.cell (Ix.own_cell e3 e7 b2) (by simp), g.cell (Ix.own_cell e3 e7 b3) (by simp)⟩
    · rintro i (rfl | ⟨hn, a, ha, rfl⟩)
      · exact hB
      · obtain ⟨q, c, cur, e1, e2, -⟩ := Ix.own_row h (by omega)
        cases e1
        cases ha
        exact e2
  clear h
  go_enter Tryz.func15, Tryz.ntmps15
  go_wp2
  go_ret
  exact ⟨_, rfl, HX.out _ rfl⟩
theorem all_any {w : World} {p : Bp} {S : Sb} {K : Nat} (h : BkAt w p S K) (hw : S.Wk) : Calls Tryz.prog 5 #[.pointer (some ⟨p.b, 0, none⟩)] w fun e w' => ∃ u, e = .returned u ∧ VlV w' w.heap.size u S.L ∧ w.grownBy w' none := by
  have HB := hide (bookings_any h hw)
  clear h
  go_enter Tryz.func5, Tryz.ntmps5
  go_wp2_with fail
  refine HB.out.mono ?_
  rintro e w1 ⟨v, rfl, h1, h2⟩
  have HV := hide (values_any h1 h2.size)
  have HG := hide h2
  clear h1 h2 HB
  go_wp2_with fail
  refine HV.out.mono ?_
  rintro e w2 ⟨u, rfl, h3, h4⟩
  have HF := hide (And.intro h3 (grown_trans HG.out h4))
  clear h3 h4 HV HG
  go_wp2
  go_ret
  exact ⟨u, rfl, HF.out⟩
end Go.Proofs.YtjfhilignbeboabGreatDoor
/- What an iterator tells, gathered. -/
namespace Go.Proofs.YtjfhilignbeboabGreatDoor
open Go.RowKit Go.Shelf
attribute [local go_sem ↓] Go.wp_at_zero Go.wp_at_succ
attribute [local go_sem] Oper.semAt_some
theorem cells_own_from {cs : Array Value} {t : TypeId} {f : Nat × Nat} {b : Nat} (B : Nat) : OwnFrom B (fun (_ : Unit) W => W.heap[b]? = some (.cells cs t f)) := fun _ W W' row h hg hr => (hg.block b (row_lt h) (fun e => by
  obtain ⟨_, o, ho, hc⟩ := hr b e.symm
  rw [h] at ho
  cases ho
  cases hc)).trans h
theorem own_base {W : World} {b b' : Nat} {e : TypeId} {size n : Nat} {v : Value} {xs : List Value} (h : W.ownsRow b e size v n xs) (hb : b' ≤ b) : W.ownsRow b' e size v n xs := by
  refine ⟨h.1, ?_⟩
  rcases h.2 with h2 | ⟨g, cap, cur, h2, h3, h4⟩
  · exact .inl h2
  · exact .inr ⟨g, cap, cur, h2, Nat.le_trans hb h3, h4⟩
/-- Inside told, between two of them. -/
structure ToI (w W : World) (pre : List Bg) : Prop where
  row : ∃ v, Boxed W w.heap.size 57 v ∧ W.ownsRow (w.heap.size + 1) 34 3 v pre.length (bgs pre)
  gr : w.grownBy W none
  sz : w.heap.size + 1 ≤ W.heap.size
theorem ToI.own_from {w : World} {B : Nat} (hB : w.heap.size ≤ B) : OwnFrom B (fun pre W => ToI w W pre) := fun pre W W' row h hg hr => by
  obtain ⟨v, h1, h2⟩ := h.row
  exact ⟨⟨v, box_own_from B () W W' row h1 hg hr, own_own_from B () W W' row h2 hg hr⟩, grown_then h.gr hg (fun j e => Or.inl (Nat.le_trans hB (hr j e).1)), Nat.le_trans h.sz hg.size⟩
end Go.Proofs.YtjfhilignbeboabGreatDoor
/- A copy of a book. -/
namespace Go.Proofs.YtjfhilignbeboabGreatDoor
open Go.RowKit Go.Shelf
attribute [local go_sem ↓] Go.wp_at_zero Go.wp_at_succ
attribute [local go_sem] Oper.semAt_some
section
variable {w w' W W' : World} {p q : Bp} {S : Sb} {K : Nat}
theorem row_cells {w : World} {b : Nat} {e : TypeId} {size n : Nat} {v : Value} {xs : List Value} (h : w.ownsRow b e size v n xs) {i : Nat} (hi : v.ownBlock = some i) : ∃ o : Obj, w.heap[i]? = some o ∧ o.isCells = true := by
  obtain ⟨-, cur, hc⟩ := Ix.own_block h hi
  exact ⟨_, hc, rfl⟩
/-- A book's blocks are cells, but for its two maps. -/
theorem BkAt.ctl (h : BkAt w p S K) : ∀ i, p.own i → (∃ o : Obj, w.heap[i]? = some o ∧ o.isCells = true) ∨ i = p.hp.mb ∨ i = p.hm := by
  obtain ⟨Lb, R, M, E, T, N, B, C, h, -⟩ := h
  rintro i ⟨k, (⟨-, rfl⟩ | ⟨-, rfl⟩ | ⟨-, rfl⟩ | ⟨-, hi⟩ | ⟨-, rfl⟩ | ⟨-, rfl⟩ | ⟨-, hi⟩ | ⟨-, rfl⟩)⟩
  · exact .inl ⟨_, h.head, rfl⟩
  · exact .inl ⟨_, h.var, rfl⟩
  · exact .inl ⟨_, h.row, rfl⟩
  · obtain ⟨lo, st, SS, h1, -⟩ := h.ix
    rcases hi with rfl | rfl
    · exact .inl ⟨_, h1.at_.head, rfl⟩
    · exact .inl ⟨_, h1.at_.row, rfl⟩
  · obtain ⟨WW, cap, cur, h1, h2, -⟩ := h.set; exact .inl ⟨_, h1, rfl⟩
  · obtain ⟨WW, cap, cur, h1, h2, -⟩ := h.set; exact .inl ⟨_, h2, rfl⟩
  · rcases hi with rfl | hi | hi | rfl
    · exact .inl ⟨_, h.due.at_.head, rfl⟩
    · exact .inl (row_cells h.due.at_.ent hi)
    · exact .inl (row_cells h.due.at_.lst hi)
    · exact .inr (.inl rfl)
  · exact .inr (.inr rfl)
/-- The maps lie below B. -/
def Bp.Lo (p : Bp) (B : Nat) : Prop := p.hp.mb < B ∧ p.hm < B
theorem Bst.lo {B : Nat} (h : Bst w w' p q) (hl : p.Lo B) : q.Lo B := ⟨by rw [h.mb]; exact hl.1, by rw [h.hm]; exact hl.2⟩
theorem BkAt.ctl_no {B : Nat} (h : BkAt w p S K) (hl : p.Lo B) {i : Nat} {o : Obj} (hB : B ≤ i) (ho : w.heap[i]? = some o) (hc : o.isCells = false) : ¬ p.own i := fun e => by
  rcases h.ctl i e with ⟨o', h1, h2⟩ | h1 | h1
  · rw [ho] at h1; cases h1; rw [hc] at h2; cases h2
  · have := hl.1; omega
  · have := hl.2; omega
theorem Bst.keeps {B : Nat} (h : Bst w w' p q) (hb : BkAt w p S K) (hl : p.Lo B) : KeepsFrom B w w' :=
  ⟨h.kept.size, fun _k _o hk ho hc => h.kept.at ho (hb.ctl_no hl hk ho hc)⟩
theorem BkAt.own_from {B : Nat} (hl : p.Lo B) : OwnFrom B (fun (_ : Unit) W => BkAt W p S K) := fun _ W W' row h hg hr =>
  h.far (X := fun i => row = some i) (Kept.of hg (fun j e _ => e)) (fun i hi e => by
    obtain ⟨h1, o, h2, h3⟩ := hr i e
    exact h.ctl_no hl h1 h2 h3 hi)
end
/-- The copy, without bookings yet. -/
structure Cp0 (w W : World) (S : Sb) (Bc : Nat) (q : Bp) : Prop where
  bk : BkAt W q { S with L := [] } 0
  bx : Boxed W Bc 26 (.pointer (some ⟨q.b, 0, none⟩))
  gr : w.grownBy W none
  own : ∀ i, q.own i → w.heap.size ≤ i
  nb : ¬ q.own Bc
  lo : w.heap.size ≤ Bc
theorem Cp0.drew {w W : World} {S : Sb} {Bc : Nat} {q : Bp} (h : Cp0 w W S Bc q) : Cp0 w W.drew S Bc q := ⟨h.bk.then (grown_drew _ none), h.bx.kept (grown_drew _ none) (by simp), gn_drew h.gr, h.own, h.nb, h.lo⟩
/-- Inside Copy, between two bookings. -/
structure CoI (w W : World) (S : Sb) (Bc b1 b2 : Nat) (b : Nat) (pre : List Bg) : Prop where
  bk : ∃ q : Bp, q.b = b ∧ BkAt W q { S with L := pre } pre.length ∧ q.Lo b1 ∧ (∀ i, q.own i → (w.heap.size ≤ i ∧ i < b1) ∨ b2 ≤ i) ∧ ¬ q.own Bc
  bx : Boxed W Bc 26 (.pointer (some ⟨b, 0, none⟩))
  gr : w.grownBy W none
  sz : b2 ≤ W.heap.size
theorem Bp.Lo.mono {p : Bp} {a b : Nat} (h : p.Lo a) (hab : a ≤ b) : p.Lo b := ⟨Nat.lt_of_lt_of_le h.1 hab, Nat.lt_of_lt_of_le h.2 hab⟩
theorem CoI.own_from {w : World} {S : Sb} {Bc b1 b2 b : Nat} (hB : w.heap.size ≤ b2) (h12 : b1 ≤ b2) : OwnFrom b2 (fun pre W => CoI w W S Bc b1 b2 b pre) := fun pre W W' row h hg hr => by
  obtain ⟨q, e, h1, h2, h3, h4⟩ := h.bk
  exact ⟨⟨q, e, BkAt.own_from (h2.mono h12) () W W' row h1 hg hr, h2, h3, h4⟩, box_own_from b2 () W W' row h.bx hg hr, grown_then h.gr hg (fun j e => Or.inl (Nat.le_trans hB (hr j e).1)), Nat.le_trans h.sz hg.size⟩
theorem pre_facts {L pre : List Bg} {x : Bg} (h : pre ++ [x] <+: L) (hA : AscB L) (hO : OneS L) : x ∈ L ∧ (∀ y ∈ pre, y.i < x.i) ∧ sat pre x.s = none ∧ pre.Sublist L ∧ pre.length + 1 ≤ L.length := by
  have h1 := h.sublist
  have hA' : AscB (pre ++ [x]) := List.Pairwise.sublist h1 hA
  have hO' : OneS (pre ++ [x]) := List.Pairwise.sublist h1 hO
  unfold AscB at hA'
  unfold OneS at hO'
  rw [List.pairwise_append] at hA' hO'
  refine ⟨h.subset (by simp), fun y hy => hA'.2.2 y hy x (by simp), sat_none.2 (fun y hy => hO'.2.2 y hy x (by simp)), (List.sublist_append_left _ _).trans h1, by have := h.length_le; simpa using this⟩
end Go.Proofs.YtjfhilignbeboabGreatDoor
/- Rows of bookings, compared. -/
namespace Go.Proofs.YtjfhilignbeboabGreatDoor
open Go.RowKit
attribute [local go_sem ↓] Go.wp_at_zero Go.wp_at_succ
/-- Bookings that lie somewhere. -/
structure BgA (w : World) (v : Value) (X : List Bg) : Prop where
  ex : ∃ ao cap, v = .slice ao X.length cap ∧ ∀ i, i < X.length → ∃ g, ao = some ⟨g, 0, none⟩ ∧ w.cell? ⟨g, i * 3, none⟩ = some (.int .u32 ((rd X i).i : Int)) ∧ w.cell? ⟨g, i * 3 + 1, none⟩ = some (.int .i64 ((rd X i).s : Int)) ∧ w.cell? ⟨g, i * 3 + 2, none⟩ = some (.int .i64 (rd X i).u)
theorem BgA.then {w w' : World} {v : Value} {X : List Bg} (h : BgA w v X) (g : w.grownBy w' none) : BgA w' v X := by
  obtain ⟨ao, cap, h1, h2⟩ := h.ex
  refine ⟨ao, cap, h1, fun i hi => ?_⟩
  obtain ⟨a, e, c0, c1, c2⟩ := h2 i hi
  exact ⟨a, e, g.cell c0 (by simp), g.cell c1 (by simp), g.cell c2 (by simp)⟩
theorem BgA.own {w : World} {b : Nat} {v : Value} {X : List Bg} (h : w.ownsRow b 34 3 v X.length (bgs X)) : BgA w v X := by
  obtain ⟨vo, vcap, rfl, hle⟩ := Ix.own_form h
  refine ⟨vo, vcap, rfl, fun i hi => ?_⟩
  obtain ⟨q, c, cur, e1, e2, e3, e4, e5, e6, e7⟩ := Ix.own_row h (by omega)
  cases e1
  obtain ⟨b1, b2, b3⟩ := bgs_get hi
  refine ⟨_, rfl, ?_, ?_, ?_⟩
  · exact Ix.own_cell e3 e7 b1
  · exact Ix.own_cell e3 e7 b2
  · exact Ix.own_cell e3 e7 b3
theorem BgA.nil (w : World) : BgA w (.slice none 0 0) [] := ⟨none, 0, rfl, fun i hi => by simp at hi⟩
end Go.Proofs.YtjfhilignbeboabGreatDoor
/- What a book is asked. -/
namespace Go.Proofs.YtjfhilignbeboabGreatDoor
open Go.RowKit
attribute [local go_sem ↓] Go.wp_at_zero Go.wp_at_succ
attribute [local go_sem] Oper.semAt_some
section
variable {w w' W : World} {p q : Bp} {S S' : Sb} {K K' : Nat}
set_option maxHeartbeats 4000000 in
theorem len_any (h : BkAt w p S K) : Calls Tryz.prog 21 #[.pointer (some ⟨p.b, 0, none⟩)] w fun e w' => e = .returned (.int .i64 (S.L.length : Int)) ∧ w' = w := by
  have HC1 := hide h.isNone
  have HC2 := hide h.len
  have c8 := h.cells 8 _ rfl
  clear h
  go_enter Tryz.func21, Tryz.ntmps21
  go_wp2_with fail
  refine HC1.out.mono ?_
  rintro e w1 ⟨rfl, rfl⟩
  go_wp2_with fail
  refine HC2.out.mono ?_
  rintro e w2 ⟨rfl, rfl⟩
  go_wp2
  go_ret
  exact ⟨rfl, rfl⟩
set_option maxHeartbeats 4000000 in
theorem next_any (h : BkAt w p S K) : Calls Tryz.prog 113 #[.pointer (some ⟨p.b, 0, none⟩)] w fun e w' => e = .returned (.int .u32 (S.n : Int)) ∧ w' = w := by
  have HC1 := hide h.isNone
  have c8 := h.cells 4 _ rfl
  clear h
  go_enter Tryz.func113, Tryz.ntmps113
  go_wp2_with fail
  refine HC1.out.mono ?_
  rintro e w1 ⟨rfl, rfl⟩
  go_wp2
  go_ret
  exact ⟨rfl, rfl⟩
set_option maxHeartbeats 4000000 in
theorem clock_any (h : BkAt w p S K) : Calls Tryz.prog 132 #[.pointer (some ⟨p.b, 0, none⟩)] w fun e w' => e = .returned (.int .i64 S.t) ∧ w' = w := by
  have HC1 := hide h.isNone
  have c8 := h.cells 5 _ rfl
  clear h
  go_enter Tryz.func132, Tryz.ntmps132
  go_wp2_with fail
  refine HC1.out.mono ?_
  rintro e w1 ⟨rfl, rfl⟩
  go_wp2
  go_ret
  exact ⟨rfl, rfl⟩
set_option maxHeartbeats 4000000 in
theorem get_any (h : BkAt w p S K) (hw : S.Wk) (k : Nat) (hk : k < 4294967296) : Calls Tryz.prog 19 #[.pointer (some ⟨p.b, 0, none⟩), .int .u32 (k : Int)] w fun e w' => e = .returned (.tuple #[bgV ((fnd S.L k).getD ⟨0, 0, 0⟩), .int .i64 (if (fnd S.L k).isSome then 0 else 171)]) ∧ BkAt w' p S K ∧ Kept w w' p.own := by
  have b0 := Bx.start h.lt bgz 34
  have h0 := h.then (grown_alloc w (.cells bgz.toArray 34))
  have HC1 := hide h0.isNone
  have hC2 := h0.find hw k hk
  have HB := hide b0
  generalize (fnd S.L k).getD ⟨0, 0, 0⟩ = x at hC2 ⊢
  generalize (if (fnd S.L k).isSome then (0 : Int) else 171) = er at hC2 ⊢
  have HC2 := hide hC2
  clear hC2 h h0 b0
  obtain ⟨xi, xs, xu⟩ := x
  unfold bgV at *
  simp only [bgz] at *
  go_enter Tryz.func19, Tryz.ntmps19
  go_wp2_with fail
  refine HC1.out.mono ?_
  rintro e w1 ⟨rfl, rfl⟩
  go_wp2_with fail
  refine HC2.out.mono ?_
  rintro e w2 ⟨rfl, hA, hk2⟩
  have hX := HB.out.keep hk2
  obtain ⟨d0, d1, d2, d3⟩ := box3 hX.box
  have H3 := hide (And.intro hA hX)
  clear hA hX hk2 HB HC1 HC2
  go_wp2
  obtain ⟨r1, r2⟩ := row3 _ H3.out.2.box (.int .u32 (xi : Int)) (.int .i64 (xs : Int)) (.int .i64 xu)
  have k1 : Kept _ _ (fun i => i = w.heap.size) := Kept.of r2 (fun _ e _ => (Option.some.inj e).symm)
  refine bodyPost_ret (results_bg rfl _ _ w.heap.size ⟨xi, xs, xu⟩ (.int .i64 er) rfl r1 rfl) rfl ⟨rfl, H3.out.1.far k1 (fun i hi e => H3.out.2.nx (by rw [← e]; exact hi)), ?_⟩
  exact H3.out.2.st.kept.trans k1 (fun i hi e => absurd hi (by rw [e]; exact Nat.lt_irrefl _))
/-- What stands at a seat that is taken. -/
theorem BkAt.seat (h : BkAt w p S K) (hw : S.Wk) {s : Nat} {x : Bg} (hx : sat S.L s = some x) : w.cell? ⟨p.sg, s * 3, none⟩ = some (.int .u32 (x.i : Int)) ∧ w.cell? ⟨p.sg, s * 3 + 1, none⟩ = some (.int .i64 (x.s : Int)) ∧ w.cell? ⟨p.sg, s * 3 + 2, none⟩ = some (.int .i64 x.u) := by
  obtain ⟨Lb, R, M, E, T, N, B, C, h, hR, hN⟩ := h
  obtain ⟨hm, hs⟩ := (sat_some hw.one).1 hx
  have h1 := hR.rw x hm
  rw [hs] at h1
  have h2 : s < R.length := by
    apply Classical.byContradiction
    intro hn
    rw [List.getElem?_eq_none (by omega)] at h1
    cases h1
  have h3 : rd R s = x := by unfold rd; rw [h1]; rfl
  have h4 := h.fd.seat h2
  rw [h3] at h4
  exact h4
/-- What a book answers at a seat. -/
def atX (S : Sb) (s : Int) : Bg := if 0 ≤ s ∧ s < (S.a : Int) then (sat S.L s.toNat).getD ⟨0, 0, 0⟩ else ⟨0, 0, 0⟩
def atE (S : Sb) (s : Int) : Int := if 0 ≤ s ∧ s < (S.a : Int) then (if (sat S.L s.toNat).isSome then 0 else 171) else 140
set_option maxHeartbeats 4000000 in
theorem at_any (h : BkAt w p S K) (hw : S.Wk) (s : Int) : Calls Tryz.prog 20 #[.pointer (some ⟨p.b, 0, none⟩), .int .i64 s] w fun e w' => e = .returned (.tuple #[bgV (atX S s), .int .i64 (atE S s)]) ∧ w.grownBy w' none := by
  have m0 := Bm.start h bgz 34
  have HC1 := hide m0.bk.isNone
  have HC2 := hide (fun W => hasSeat_any S.a S.b S.c s W)
  have a0 := m0.ff.a0
  have a1 := m0.ff.a1
  have a2 := m0.ff.a2
  obtain ⟨d0, d1, d2, d3⟩ := box3 m0.box
  by_cases hs : 0 ≤ s ∧ s < (S.a : Int)
  · obtain ⟨n, rfl⟩ := Int.eq_ofNat_of_zero_le hs.1
    have hn : n < S.a := by omega
    rw [decide_eq_true hs] at HC2
    unfold atX atE
    rw [if_pos hs, if_pos hs, Int.toNat_natCast]
    have HC3 : Hid (∀ W, Bm w W w.heap.size bgz 34 p S K → Calls Tryz.prog 44 #[.pointer (some ⟨p.tb, 0, none⟩), .int .i64 (n : Int)] W fun e w' => e = .returned (.bool (sat S.L n).isSome) ∧ W.grownBy w' none) := fun W hW => hW.bk.has n hn
    have HM := hide m0
    cases hq : sat S.L n with
    | some x =>
      have HS : Hid (∀ W, Bm w W w.heap.size bgz 34 p S K → W.cell? ⟨p.sg, n * 3, none⟩ = some (.int .u32 (x.i : Int)) ∧ W.cell? ⟨p.sg, n * 3 + 1, none⟩ = some (.int .i64 (x.s : Int)) ∧ W.cell? ⟨p.sg, n * 3 + 2, none⟩ = some (.int .i64 x.u)) := fun W hW => hW.bk.seat hw hq
      rw [hq] at HC3
      simp only [Option.isSome, Option.getD, if_true] at *
      have h1 : (0 : Int) ≤ (n : Int) := by omega
      have h2 : (n : Int) < (S.a : Int) := by omega
      clear m0 h hs hq hw
      obtain ⟨xi, xs, xu⟩ := x
      unfold bgV limV at *
      simp only [bgz] at *
      go_enter Tryz.func20, Tryz.ntmps20
      go_wp2_with fail
      refine HC1.out.mono ?_
      rintro e w1 ⟨rfl, rfl⟩
      go_wp2_with fail
      refine (HC2.out _).mono ?_
      rintro e w2 ⟨rfl, hg2⟩
      have m2 := HM.out.then hg2
      have a6 := m2.ff.a6
      have HM2 := hide m2
      clear m2 HM a0 a1 a2 d0 d1 d2 d3 HC1 HC2
      go_wp2_with fail
      refine (HC3.out _ HM2.out).mono ?_
      rintro e w3 ⟨rfl, hg3⟩
      have m3 := HM2.out.then hg3
      have a7 := m3.bk.cells 7 _ rfl
      obtain ⟨s0, s1, s2⟩ := HS.out _ m3
      obtain ⟨d0, d1, d2, d3⟩ := box3 m3.box
      have HM3 := hide m3
      clear m3 HM2 a6 HC3 HS
      go_wp2
      obtain ⟨r1, r2⟩ := row3 _ HM3.out.box (.int .u32 (xi : Int)) (.int .i64 (xs : Int)) (.int .i64 xu)
      exact bodyPost_ret (results_bg rfl _ _ w.heap.size ⟨xi, xs, xu⟩ (.int .i64 0) rfl r1 rfl) rfl ⟨rfl, gn_set (gn_set (gn_set HM3.out.gr (Nat.le_refl _)) (Nat.le_refl _)) (Nat.le_refl _)⟩
    | none =>
      rw [hq] at HC3
      simp only [Option.isSome, Option.getD, Bool.false_eq_true, if_false] at *
      clear m0 h hs hq hw
      unfold bgV limV at *
      simp only [bgz] at *
      go_enter Tryz.func20, Tryz.ntmps20
      go_wp2_with fail
      refine HC1.out.mono ?_
      rintro e w1 ⟨rfl, rfl⟩
      go_wp2_with fail
      refine (HC2.out _).mono ?_
      rintro e w2 ⟨rfl, hg2⟩
      have m2 := HM.out.then hg2
      have a6 := m2.ff.a6
      have HM2 := hide m2
      clear m2 HM a0 a1 a2 d0 d1 d2 d3 HC1 HC2
      go_wp2_with fail
      refine (HC3.out _ HM2.out).mono ?_
      rintro e w3 ⟨rfl, hg3⟩
      have m3 := HM2.out.then hg3
      obtain ⟨d0, d1, d2, d3⟩ := box3 m3.box
      have HM3 := hide m3
      clear m3 HM2 a6 HC3
      go_wp2
      obtain ⟨r1, r2⟩ := row3 _ HM3.out.box (.int .u32 0) (.int .i64 0) (.int .i64 0)
      exact bodyPost_ret (results_bg rfl _ _ w.heap.size ⟨0, 0, 0⟩ (.int .i64 171) rfl r1 rfl) rfl ⟨rfl, gn_set (gn_set (gn_set HM3.out.gr (Nat.le_refl _)) (Nat.le_refl _)) (Nat.le_refl _)⟩
  · rw [decide_eq_false hs] at HC2
    unfold atX atE
    rw [if_neg hs, if_neg hs]
    have HM := hide m0
    clear m0 h hs hw
    unfold bgV limV at *
    simp only [bgz] at *
    go_enter Tryz.func20, Tryz.ntmps20
    go_wp2_with fail
    refine HC1.out.mono ?_
    rintro e w1 ⟨rfl, rfl⟩
    go_wp2_with fail
    refine (HC2.out _).mono ?_
    rintro e w2 ⟨rfl, hg2⟩
    have m2 := HM.out.then hg2
    obtain ⟨d0, d1, d2, d3⟩ := box3 m2.box
    have HM3 := hide m2
    clear m2 HM a0 a1 a2 HC1 HC2
    go_wp2
    obtain ⟨r1, r2⟩ := row3 _ HM3.out.box (.int .u32 0) (.int .i64 0) (.int .i64 0)
    exact bodyPost_ret (results_bg rfl _ _ w.heap.size ⟨0, 0, 0⟩ (.int .i64 140) rfl r1 rfl) rfl ⟨rfl, gn_set (gn_set (gn_set HM3.out.gr (Nat.le_refl _)) (Nat.le_refl _)) (Nat.le_refl _)⟩
end
end Go.Proofs.YtjfhilignbeboabGreatDoor
/- A book in the midst of a law: beside boxes of the law's own. -/
namespace Go.Proofs.YtjfhilignbeboabGreatDoor
open Go.RowKit
attribute [local go_sem ↓] Go.wp_at_zero Go.wp_at_succ
attribute [local go_sem] Oper.semAt_some
/-- A book at b, made since w, beside boxes. -/
structure Lk (w W : World) (b : Nat) (S : Sb) (K : Nat) (p : Bp) (Bs : List (Nat × List Value × TypeId)) : Prop where
  eb : p.b = b
  bk : BkAt W p S K
  gr : w.grownBy W none
  own : ∀ i, p.own i → w.heap.size ≤ i
  bx : ∀ x ∈ Bs, W.heap[x.1]? = some (.cells x.2.1.toArray x.2.2 (0, 0)) ∧ ¬ p.own x.1 ∧ w.heap.size ≤ x.1
section
variable {w W W' : World} {b : Nat} {S S' : Sb} {K K' : Nat} {p q : Bp} {Bs : List (Nat × List Value × TypeId)}
theorem Lk.kept (h : Lk w W b S K p Bs) (k : Kept W W' p.own) : w.grownBy W' none :=
  ((Kept.new h.gr (fun i => w.heap.size ≤ i)).trans k (fun i _ e => h.own i e)).grown (fun i hi e => by omega)
theorem Lk.step (h : Lk w W b S K p Bs) (k : Bst W W' p q) (hb : BkAt W' q S' K') : Lk w W' b S' K' q Bs :=
  ⟨k.b.trans h.eb, hb, h.kept k.kept, fun i hi => by
    rcases k.own i hi with e | e
    · exact h.own i e
    · exact Nat.le_trans h.gr.size e, fun x hx => by
    obtain ⟨h1, h2, h3⟩ := h.bx x hx
    refine ⟨k.kept.at h1 h2, fun e => ?_, h3⟩
    rcases k.own _ e with e | e
    · exact h2 e
    · have := row_lt h1; omega⟩
theorem Lk.then (h : Lk w W b S K p Bs) (g : W.grownBy W' none) : Lk w W' b S K p Bs := h.step (Bst.grown g p) (h.bk.then g)
theorem Lk.drew (h : Lk w W b S K p Bs) : Lk w W.drew b S K p Bs := h.then (grown_drew W none)
theorem Lk.box (h : Lk w W b S K p Bs) (cs : List Value) (ty : TypeId) : Lk w (W.alloc (.cells cs.toArray ty)) b S K p ((W.heap.size, cs, ty) :: Bs) := by
  have h1 := h.then (grown_alloc W (.cells cs.toArray ty))
  refine ⟨h1.eb, h1.bk, h1.gr, h1.own, fun x hx => ?_⟩
  rcases List.mem_cons.1 hx with rfl | hx
  · exact ⟨heap_alloc_new W _, fun e => Nat.lt_irrefl _ (h.bk.lt _ e), h.gr.size⟩
  · exact h1.bx x hx
theorem Lk.sub {Cs : List (Nat × List Value × TypeId)} (h : Lk w W b S K p Bs) (hs : ∀ x ∈ Cs, x ∈ Bs) : Lk w W b S K p Cs := ⟨h.eb, h.bk, h.gr, h.own, fun x hx => h.bx x (hs x hx)⟩
theorem Lk.bare (h : Lk w W b S K p Bs) : Lk w W b S K p [] := h.sub (fun x hx => by cases hx)
theorem Lk.more (h : Lk w W b S K p Bs) (hk : K ≤ K') : Lk w W b S K' p Bs := ⟨h.eb, h.bk.mono hk, h.gr, h.own, h.bx⟩
theorem Lk.put {X : Nat} {cs : List Value} {ty : TypeId} (h : Lk w W b S K p [(X, cs, ty)]) (j : Nat) (v : Value) : Lk w (W.setCell ⟨X, j, none⟩ v) b S K p [(X, cs.set j v, ty)] := by
  obtain ⟨h1, h2, h3⟩ := h.bx (X, cs, ty) (by simp)
  refine ⟨h.eb, h.bk.far (kept_setCell W X j v) (fun i hi e => h2 (by rw [← e]; exact hi)), grown_then h.gr (grown_setCell W X j v) (fun i e => .inl (by cases e; exact h3)), h.own, fun x hx => ?_⟩
  simp only [List.mem_singleton] at hx
  subst hx
  exact ⟨row_setCell h1 j v, h2, h3⟩
theorem Lk.cell {X : Nat} {cs : List Value} {ty : TypeId} (h : Lk w W b S K p Bs) (hm : (X, cs, ty) ∈ Bs) (j : Nat) (v : Value) (hv : cs[j]? = some v) : W.cell? ⟨X, j, none⟩ = some v := by
  rw [cell_row (h.bx _ hm).1]; exact hv
theorem Lk.free {X : Nat} {cs : List Value} {ty : TypeId} (h : Lk w W b S K p Bs) (hm : (X, cs, ty) ∈ Bs) (j : Nat) : W.frozen? ⟨X, j, none⟩ = false := free_row (h.bx _ hm).1 j
theorem Lk.len (h : Lk w W b S K p Bs) : Calls Tryz.prog 21 #[.pointer (some ⟨b, 0, none⟩)] W fun e w' => e = .returned (.int .i64 (S.L.length : Int)) ∧ w' = W := by
  have := len_any h.bk; rw [h.eb] at this; exact this
theorem Lk.next (h : Lk w W b S K p Bs) : Calls Tryz.prog 113 #[.pointer (some ⟨b, 0, none⟩)] W fun e w' => e = .returned (.int .u32 (S.n : Int)) ∧ w' = W := by
  have := next_any h.bk; rw [h.eb] at this; exact this
theorem Lk.seat (h : Lk w W b S K p Bs) (hw : S.Wk) (s : Int) : Calls Tryz.prog 20 #[.pointer (some ⟨b, 0, none⟩), .int .i64 s] W fun e w' => e = .returned (.tuple #[bgV (atX S s), .int .i64 (atE S s)]) ∧ Lk w w' b S K p Bs := by
  have := at_any h.bk hw s; rw [h.eb] at this
  refine this.mono ?_
  rintro e w' ⟨rfl, g⟩
  exact ⟨rfl, h.then g⟩
theorem Lk.all (h : Lk w W b S K p Bs) (hw : S.Wk) : Calls Tryz.prog 5 #[.pointer (some ⟨b, 0, none⟩)] W fun e w' => ∃ u, e = .returned u ∧ VlV w' W.heap.size u S.L ∧ Lk w w' b S K p Bs := by
  have := all_any h.bk hw; rw [h.eb] at this
  refine this.mono ?_
  rintro e w' ⟨u, rfl, h1, h2⟩
  exact ⟨u, rfl, h1, h.then h2⟩
end
theorem Sb.Ok.new {a b c : Nat} (h : Gx.OkS a b c) : Sb.Ok ⟨a, b, c, 1, 0, []⟩ := by
  obtain ⟨h1, h2, h3, h4, h5, h6⟩ := h
  exact ⟨by simp only; omega, by simp only; omega, by simp only; omega, by simp only; omega, by simp only; omega, by simp only; omega, by simp only; omega, by simp only; omega, by simp only; omega, by simp only [mxC]; omega, List.Pairwise.nil, (fun x hx => by cases hx), (fun x hx => by cases hx), List.Pairwise.nil, (fun x hx => by cases hx), by simp⟩
/-- Records that lie somewhere. -/
def RecsAt (w : World) (ao : Option Addr) (rs : List Rc) : Prop := ∀ j r, rs[j]? = some r → ∃ blk off, ao = some (⟨blk, off, none⟩ : Addr) ∧ w.cell? ⟨blk, off + j * 5, none⟩ = some (.int .i64 r.k) ∧ w.cell? ⟨blk, off + j * 5 + 1, none⟩ = some (.int .u32 r.i) ∧ w.cell? ⟨blk, off + j * 5 + 2, none⟩ = some (.int .i64 r.s) ∧ w.cell? ⟨blk, off + j * 5 + 3, none⟩ = some (.int .i64 r.u) ∧ w.cell? ⟨blk, off + j * 5 + 4, none⟩ = some (.int .i64 r.c)
theorem RecsAt.grown {w w' : World} {ao : Option Addr} {os : List Rc} (h : RecsAt w ao os) (g : w.grownBy w' none) : RecsAt w' ao os := by
  intro j o hj
  obtain ⟨b, off, e, h1, h2, h3, h4, h5⟩ := h j o hj
  exact ⟨b, off, e, g.cell h1 (by simp), g.cell h2 (by simp), g.cell h3 (by simp), g.cell h4 (by simp), g.cell h5 (by simp)⟩
def S0 : Sb := ⟨3, 2, 1, 1, 0, []⟩
def S1 : Sb := ⟨3, 2, 1, 2, 0, [⟨1, 0, 10⟩]⟩
def S2 : Sb := ⟨3, 2, 1, 2, 10, []⟩
end Go.Proofs.YtjfhilignbeboabGreatDoor
/- Two books side by side; ticks, numbers alone. -/
namespace Go.Proofs.YtjfhilignbeboabGreatDoor
open Go.RowKit
section
variable {w W W' : World} {b c : Nat} {S S' : Sb} {K K' : Nat} {p q q' : Bp} {Bs : List (Nat × List Value × TypeId)}
end
end Go.Proofs.YtjfhilignbeboabGreatDoor
namespace Go.Proofs.YtjfhilignbeboabGreatDoor
/- What records come to: Of. -/
open Go.RowKit
attribute [local go_sem ↓] Go.wp_at_zero Go.wp_at_succ
attribute [local go_sem] Oper.semAt_some
theorem Lk.base {w w0 W : World} {b : Nat} {S : Sb} {K : Nat} {p : Bp} {Bs : List (Nat × List Value × TypeId)} (h : Lk w0 W b S K p Bs) (g : w.grownBy w0 none) : Lk w W b S K p Bs :=
  ⟨h.eb, h.bk, grown_trans g h.gr, fun i hi => Nat.le_trans g.size (h.own i hi), fun x hx => ⟨(h.bx x hx).1, (h.bx x hx).2.1, Nat.le_trans g.size (h.bx x hx).2.2⟩⟩
/-- A new book's state. -/
def nS (a b c : Nat) : Sb := ⟨a, b, c, 1, 0, []⟩
theorem nS_ok {a b c : Nat} (h : Gx.OkS a b c) : (nS a b c).Ok := Sb.Ok.new h
end Go.Proofs.YtjfhilignbeboabGreatDoor
/- The contracts of the document's functions: Check, Size, Image, hold. -/
namespace Go.Proofs.YtjfhilignbeboabGreatDoor.Ge
open Go.RowKit
attribute [local go_sem ↓] Go.wp_at_zero Go.wp_at_succ

set_option maxHeartbeats 1000000 in
theorem rcheck_ok (a b c : Int) (h : Gx.OkS a b c) (w : World) : Calls Tryz.prog 25 #[shV a b c] w fun e w' => e = .returned (.int .i64 0) ∧ w.grownBy w' none := by
  have hG : ∀ o, w.grownBy (w.alloc o) none := fun o => grown_alloc w o
  obtain ⟨h1, h2, h3, h4, h5, h6⟩ := h
  unfold shV
  go_enter Tryz.func25, Tryz.ntmps25
  go_wp2
  go_ret
  exact ⟨rfl, hG _⟩

end Go.Proofs.YtjfhilignbeboabGreatDoor.Ge
