/- What the laws of this layer ask a book: its bookings, gathered. -/
import Derived.Test.YtinkkocleognbaaGreatDoorJpAg
namespace Go.Proofs.YtinkkocleognbaaGreatDoor
open Go.RowKit Go.Shelf
attribute [local go_sem ↓] Go.wp_at_zero Go.wp_at_succ
attribute [local go_sem] Oper.semAt_some
/-- Inside bookings, between two of them. -/
structure ToJ (w W : World) (lo : Nat) (pre : List Bg) : Prop where
  row : ∃ v, Boxed W w.heap.size 32 v ∧ W.ownsRow lo 108 3 v pre.length (bgs pre)
  gr : w.grownBy W none
  sz : lo ≤ W.heap.size
theorem ToJ.own_from {w : World} {lo B : Nat} (hB : w.heap.size ≤ B) : OwnFrom B (fun pre W => ToJ w W lo pre) := fun pre W W' row h hg hr => by
  obtain ⟨v, h1, h2⟩ := h.row
  exact ⟨⟨v, box_own_from B () W W' row h1 hg hr, own_own_from B () W W' row h2 hg hr⟩, grown_then h.gr hg (fun j e => Or.inl (Nat.le_trans hB (hr j e).1)), Nat.le_trans h.sz hg.size⟩
set_option maxRecDepth 100000 in
set_option maxHeartbeats 16000000 in
theorem lbk_any {w : World} {p : Bp} {S : Sb} {K : Nat} (h : BkAt w p S K) (hw : S.Wk) : Calls Tryz.prog 50 #[.pointer (some ⟨p.b, 0, none⟩)] w fun e w' => ∃ v, e = .returned v ∧ w'.ownsRow w.heap.size 108 3 v S.L.length (bgs S.L) ∧ w.grownBy w' none := by
  have hX : S.L.length ≤ 65536 := by have := hw.few; have := hw.b1; omega
  obtain ⟨w1, hw1⟩ : ∃ w1, w1 = w.alloc (.cells #[.slice none 0 0] 32) := ⟨_, rfl⟩
  have g1 : w.grownBy w1 none := by rw [hw1]; exact grown_alloc _ _
  have b1 : Boxed w1 w.heap.size 32 (.slice none 0 0) := by rw [hw1]; exact Boxed.new w 32 _
  have s1 : w1.heap.size = w.heap.size + 1 := by rw [hw1]; simp
  have HA := all_any (h.then g1) hw
  have HW1 := hide hw1
  have H1 := hide (And.intro g1 (And.intro b1 s1))
  generalize S.L = X at *
  obtain ⟨i0, hi0, hz0, hz1, hz2⟩ := info_parts Tryz.info108
  have H78 := hide (And.intro hi0 (And.intro hz0 (And.intro hz1 hz2)))
  have HXX := hide hX
  clear hi0 hz0 hz1 hz2 g1 b1 hw1 s1 h hw hX
  refine (callsIn_wide (n := 6)).1 (callsIn_of_wp_marks Tryz.func50 rfl trivial ?_ rfl)
  simp only [Tryz.ntmps50, List.size_toArray, List.length_cons, List.length_nil, Nat.reduceAdd, Nat.reduceSub, Array.replicate_succ, Array.replicate_zero, List.push_toArray, List.append_toArray, List.nil_append, List.cons_append]
  refine wpIn_wide.2 ?_
  go_wp2_with fail
  rw [← HW1.out]
  refine HA.mono ?_
  clear HA
  rintro e w2 ⟨u, rfl, ⟨B, so, cap, rfl, hI, hlo⟩, g2⟩
  have hsl := hI.lt
  have I0 : Hid (ToJ w w2 w2.heap.size []) := ⟨⟨_, H1.out.2.1.kept g2 (by simp), World.ownsRow_nil _ _ _ _⟩, grown_trans H1.out.1 g2, Nat.le_refl _⟩
  have hq : ∀ i, vbk B so X.length i → w.heap.size + 1 ≤ i ∧ i < w2.heap.size := fun i hi => ⟨by rw [← H1.out.2.2]; exact hlo i hi, hsl i hi⟩
  have HI := hide (And.intro hI hq)
  have hz : w.heap.size ≤ w2.heap.size := (grown_trans H1.out.1 g2).size
  have hzz : w.heap.size < w2.heap.size := by have := g2.size; have := H1.out.2.2; omega
  have l0 : w2.cell? ⟨w.heap.size, 0, none⟩ = some (.slice none 0 0) := (H1.out.2.1.kept g2 (by simp)).cell
  clear hI hsl hq g2 hlo
  go_wp2
  refine (wpIn_wide (n := 6)).1 (wpIn_range_V (w := w2) rfl (by decide) (gf := 145) (lb := #[.pointer (some ⟨B, 0, none⟩)]) rfl trivial (enters_of Tryz.func145 (by kernel_rfl) rfl)
    (encs := encB) (Kp := KpB (vbk B so X.length)) (V := fun pre x _ => pre ++ [x] <+: X) (S := fun ys => ys = X)
    (fun W hW => vt_seqV 5 (by decide) B so cap X HXX.out W (HI.out.1.grown hW))
    (fun h k => h.trans k) (fun W l o hl => KpB.put (fun hq => by have := (HI.out.2 l hq).2; omega)) (fun W W' _ hg => KpB.new hg) (fun _ => rfl)
    (fun pre => fun _ _ _ _ h _ _ => h)
    (fun pre W => ToJ w W w2.heap.size pre) (fun _ _ _ => False)
    (ToJ.own_from hz) (fun _ _ _ _ _ h _ _ => h) I0.out
    (fun x a' W => ∃ F, a' = { tmps := #[Value.pointer (some ⟨p.b, 0, none⟩), undef, Value.slice none 0 0, Value.pointer (some ⟨w.heap.size, 0, none⟩), Value.pointer (some ⟨F, 0, none⟩), Value.pointer (some ⟨p.b, 0, none⟩), Value.func (Fn.func 145) #[] #[Value.pointer (some ⟨B, 0, none⟩)], bgV x, undef, undef, undef, undef, undef], defers := [] } ∧ W.heap[F]? = some (.cells (bgc x).toArray 108 (0, 0)))
    (fun x => fun a' W W' row h hg hr => by obtain ⟨F, h1, h2⟩ := h; exact ⟨F, h1, cells_own_from w2.heap.size () W W' row h2 hg hr⟩) ?assign ?body ?done (fun _ _ _ _ _ h _ => h.elim))
  case assign =>
    rintro l pre ⟨xi, xs, xu⟩ W K hI hV hK
    simp only [encB, bgV]
    gi_wp2
    exact hK _ _ (grown_alloc W _) ⟨W.heap.size, rfl, heap_alloc_new W _⟩
  case body =>
    rintro l pre ⟨xi, xs, xu⟩ a' W hI hV ⟨F, rfl, hF⟩
    have hpl : pre.length + 1 ≤ X.length := by have := hV.length_le; simpa using this
    have hX0 := HXX.out
    obtain ⟨v, hb2, hr2⟩ := hI.row
    obtain ⟨vo, vcap, rfl, -⟩ := Ix.own_form hr2
    have l1 : W.cell? ⟨w.heap.size, 0, none⟩ = some (.slice vo pre.length vcap) := hb2.cell
    obtain ⟨f0, f1, f2, -⟩ := box3 hF
    have hsz := hI.sz
    have HX := hide (And.intro hI (And.intro hb2 hr2))
    have HC := hide (cell3_new W ⟨xi, xs, xu⟩ 108)
    simp only [bgc, bgV] at *
    clear hI hb2 hr2 hV hF
    gi_wp2_with (gi_at_builtin; refine wpListIn_append_own _ rfl (.tmp 8) (.tmp 10) 32 rfl w2.heap.size 108 i0 (.agg #[.int .u32 0, .int .i64 0, .int .i64 0]) 3 24 Tryz.underlying32 H78.out.1 H78.out.2.1 H78.out.2.2.1 H78.out.2.2.2 rfl (by decide) (.slice vo pre.length vcap) pre.length (bgs pre) rfl (HX.out.2.2.alloc _) ⟨W.heap.size, 0, none⟩ 1 1 [.int .u32 (xi : Int), .int .i64 (xs : Int), .int .i64 xu] rfl rfl HC.out (by simp [Value.oneCell']) (by unfold maxLen; omega) (by omega) (by simp; omega) ?_)
    intro v' w3 ho hg hne
    obtain ⟨hI, hb2, hr2⟩ := HX.out
    have ho' : w3.ownsRow w2.heap.size 108 3 v' (pre.length + 1) (bgs (pre ++ [⟨xi, xs, xu⟩])) := by rw [← bgs_snoc]; exact ho
    obtain ⟨q1, q2, q3, q4, q5, q6⟩ := box_app hb2 (by decide) hr2 ho' hg
    have hrow1 : ∀ k, (Value.slice vo pre.length vcap).ownBlock = some k → w2.heap.size ≤ k := fun k hk => (Ix.own_block hr2 hk).1
    have HZZ : Hid (∀ a', ownPostG w2.heap.size (KpB (vbk B so X.length)) (fun pre W => ToJ w W w2.heap.size pre) (fun _ _ _ => False) (pre ++ [⟨xi, xs, xu⟩]) W .normal a' (w3.setCell ⟨w.heap.size, 0, none⟩ v')) := by
      intro a'
      refine ⟨q4.from _, KpB.of q6 ?_, ⟨⟨v', q2, by rw [List.length_append]; exact q3⟩, ?_, Nat.le_trans hsz q6.size⟩⟩
      · intro i hi
        have h2 := HI.out.2 i hi
        rintro (e | e)
        · omega
        · have := hrow1 i e; omega
      · refine Kept.grown (((Kept.new hI.gr (fun i => w.heap.size ≤ i)).trans q6 ?_)) (fun i hi e => by omega)
        rintro i hi (e | e)
        · omega
        · have := hrow1 _ e; omega
    obtain ⟨vo', vcap', rfl, -⟩ := Ix.own_form ho
    have l2 := q1.cell
    have l3 := q1.frozen
    clear q1 q2 q3 q4 q5 q6 hrow1 ho ho' hg hne hI hb2 hr2 HX HC
    gi_wp2
    exact HZZ.out _
  case done =>
    rintro D ys W hD rfl hI hK
    obtain ⟨v, hb2, hr2⟩ := hI.row
    obtain ⟨vo, vcap, rfl, -⟩ := Ix.own_form hr2
    have l1 : W.cell? ⟨w.heap.size, 0, none⟩ = some (.slice vo ys.length vcap) := hb2.cell
    have HX := hide (And.intro hI (And.intro hr2 hK))
    clear hI hb2 hr2 hK
    go_wp2
    obtain ⟨hI, hr2, hK⟩ := HX.out
    refine ⟨by simp, .inl ⟨_, _, rfl, run_takeDeferred hK, ?_⟩⟩
    have hf2 := ownsRow_putObj hr2 (.deferred none) hK rfl
    refine ⟨_, results_tmp rfl _ _ _, _, rfl, own_base hf2 hz, ?_⟩
    exact grown_then hI.gr (grownBy_putObj' _ D _) (fun j e => by cases e; exact Or.inl (by omega))
end Go.Proofs.YtinkkocleognbaaGreatDoor
