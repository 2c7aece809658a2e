/- The contracts of All and Gaps, and of what the statements collect of them. -/
import Derived.Test.YtajdgkbeenalkaaDoorIter
namespace Go.Proofs.YtajdgkbeenalkaaDoor
open Go.RowKit Go.Shelf

/-- A function value that goes over the numbers of L (All). -/
def AllV (w : World) (v : Value) (L : List Bool) : Prop := ∃ B p, v = .func (.func 55) #[] #[.pointer (some ⟨B, 0, none⟩)] ∧ It w.heap.size w B p L ∧ L.length ≤ 65536
def GapsV (w : World) (v : Value) (L : List Bool) : Prop := ∃ B p, v = .func (.func 57) #[] #[.pointer (some ⟨B, 0, none⟩)] ∧ It w.heap.size w B p L ∧ L.length ≤ 65536

theorem It.mono {n m : Nat} {w : World} {B : Nat} {p : Option Addr} {L : List Bool} (h : It n w B p L) (hm : n ≤ m) : It m w B p L := by
  refine ⟨h.box, Nat.lt_of_lt_of_le h.lt hm, ?_, h.tab, Nat.lt_of_lt_of_le h.pos hm⟩
  rcases h.held with ⟨b, g, hp, h1, h2, h3⟩ | h
  · exact Or.inl ⟨b, g, hp, h1, by omega, by omega⟩
  · exact Or.inr h
theorem It.grown {w w' : World} {B : Nat} {p : Option Addr} {L : List Bool} (h : It w.heap.size w B p L) (hB : Below w.heap.size w w') : It w'.heap.size w' B p L := (h.below hB).mono hB.size

/-- What the two calls start from: a set, or no set. -/
def SetOr (w : World) (p : Option Addr) (L : List Bool) : Prop := (∃ b g, p = some ⟨b, 0, none⟩ ∧ SetAt w b g L) ∨ (NoSet w p ∧ L = [])

theorem SetOr.copy {w : World} {p : Option Addr} {L : List Bool} (h : SetOr w p L) (hw : 0 < w.heap.size) : Calls Tryd.prog 16 #[.pointer p] w fun e w' => ∃ q, e = .returned (.pointer q) ∧ Held w'.heap.size w' q L ∧ w.grownBy w' none := by
  rcases h with ⟨b, g, rfl, h⟩ | ⟨h, rfl⟩
  · refine (copy_any b g L w h hw).mono ?_
    rintro e w' ⟨b', g', rfl, h1, _, _, h4⟩
    exact ⟨_, rfl, Or.inl ⟨b', g', rfl, h1, h1.lt.1, h1.lt.2⟩, h4⟩
  · refine (copy_none p w h).mono ?_
    rintro e w' ⟨rfl, rfl⟩
    exact ⟨_, rfl, Or.inr ⟨rfl, rfl⟩, grown_refl _ _⟩

theorem box_it {w w' : World} {q : Option Addr} {L : List Bool} (hq : Held w'.heap.size w' q L) (hg : w.grownBy w' none) (hT : Tab w) :
    It ((w'.alloc (.cells #[.pointer q] 24)).heap.size) (w'.alloc (.cells #[.pointer q] 24)) w'.heap.size q L := by
  have hT' := hT.kept hg (by simp)
  have hB : Below w'.heap.size w' (w'.alloc (.cells #[.pointer q] 24)) := (Below.refl _ w').alloc (Nat.le_refl _) _
  refine ⟨Boxed.new w' 24 _, by simp, ?_, hT'.kept (World.grownBy_alloc w' _ none) (by simp), by simp⟩
  rcases hq.below hB with ⟨b, g, hp, h1, h2, h3⟩ | h
  · exact Or.inl ⟨b, g, hp, h1, by simp; omega, by simp; omega⟩
  · exact Or.inr h

set_option maxHeartbeats 400000 in
theorem all_any (p : Option Addr) (L : List Bool) (w : World) (h : SetOr w p L) (hT : Tab w) (hL : L.length ≤ 65536) :
    Calls Tryd.prog 27 #[.pointer p] w fun e w' => ∃ v, e = .returned v ∧ AllV w' v L ∧ w.grownBy w' none := by
  have H := hide (h.copy hT.lt)
  have HT := hide hT
  clear h hT
  go_enter Tryd.func27, Tryd.ntmps27
  go_wp2_with fail
  refine H.out.mono ?_
  rintro e w' ⟨q, rfl, hq, hg⟩
  have HQ := hide (And.intro hq hg)
  clear hq hg H
  go_wp2
  go_ret
  obtain ⟨hq, hg⟩ := HQ.out
  exact ⟨_, rfl, ⟨w'.heap.size, q, rfl, box_it hq hg HT.out, hL⟩, grown_trans hg (World.grownBy_alloc w' _ none)⟩

set_option maxHeartbeats 400000 in
theorem gaps_any (p : Option Addr) (L : List Bool) (w : World) (h : SetOr w p L) (hT : Tab w) (hL : L.length ≤ 65536) :
    Calls Tryd.prog 31 #[.pointer p] w fun e w' => ∃ v, e = .returned v ∧ GapsV w' v L ∧ w.grownBy w' none := by
  have H := hide (h.copy hT.lt)
  have HT := hide hT
  clear h hT
  go_enter Tryd.func31, Tryd.ntmps31
  go_wp2_with fail
  refine H.out.mono ?_
  rintro e w' ⟨q, rfl, hq, hg⟩
  have HQ := hide (And.intro hq hg)
  clear hq hg H
  go_wp2
  go_ret
  obtain ⟨hq, hg⟩ := HQ.out
  exact ⟨_, rfl, ⟨w'.heap.size, q, rfl, box_it hq hg HT.out, hL⟩, grown_trans hg (World.grownBy_alloc w' _ none)⟩

theorem all_stops (n : Nat) (hn : 1 ≤ n) (B n₀ : Nat) (p : Option Addr) (L : List Bool) (w : World) (hI : It n₀ w B p L) (hn₀ : n₀ ≤ w.heap.size) (hL : L.length ≤ 65536) :
    SeqStopsK Fence.wide n Tryd.prog 55 #[.pointer (some ⟨B, 0, none⟩)] (fun x : Nat => #[Value.int .i64 (x : Int)]) (Below n₀) (fun ys => ys = allL L) (fun pre => pre <+: allL L) (allL L).length w := fun l J Jx W hW _ _ hY h0 =>
  all1_in n hn l B n₀ p L hL J Jx hY W (hI.below (hW.mono hn₀)) h0
theorem gaps_stops (n : Nat) (hn : 1 ≤ n) (B n₀ : Nat) (p : Option Addr) (L : List Bool) (w : World) (hI : It n₀ w B p L) (hn₀ : n₀ ≤ w.heap.size) (hL : L.length ≤ 65536) :
    SeqStopsK Fence.wide n Tryd.prog 57 #[.pointer (some ⟨B, 0, none⟩)] encP (Below n₀) (fun ys => ys = gapsL L) (fun pre => pre <+: gapsL L) (gapsL L).length w := fun l J Jx W hW _ _ hY h0 =>
  gaps1_in n hn l B n₀ p L hL J Jx hY W (hI.below (hW.mono hn₀)) h0

/-- Numbers as they lie in cells. -/
def intsV (xs : List Nat) : List Value := xs.map fun (x : Nat) => Value.int .i64 (x : Int)
theorem intsV_length (xs : List Nat) : (intsV xs).length = xs.length := by simp [intsV]
theorem allL_length (L : List Bool) : (allL L).length ≤ L.length := by
  unfold allL allTo
  exact Nat.le_trans (List.length_filter_le _ _) (by simp)
theorem Tryd.info3 : (Tryd.prog.info? 3).map (fun i => (i.zero, i.size, i.bytes)) = some (some (.int .i64 0), 1, 8) := by kernel_rfl
theorem eqlNil62 (w : World) (f : Nat) (lb : Array Value) : (binOp .eql 62 (.func (.func f) #[] lb) .nilFunc).run Tryd.prog w = .ok (.bool false) w := by kernel_rfl
theorem eqlNil69 (w : World) (f : Nat) (lb : Array Value) : (binOp .eql 69 (.func (.func f) #[] lb) .nilFunc).run Tryd.prog w = .ok (.bool false) w := by kernel_rfl

attribute [local go_sem] Oper.semAt_some
set_option maxRecDepth 100000 in
set_option maxHeartbeats 2000000 in
theorem told_in (B : Nat) (p : Option Addr) (L : List Bool) (w : World) (hI : It w.heap.size w B p L) (hL : L.length ≤ 65536) :
    CallsIn Fence.wide 6 Tryd.prog 29 #[.func (.func 55) #[] #[.pointer (some ⟨B, 0, none⟩)]] w fun e w' => ∃ s, e = .returned (.tuple #[s, .bool true]) ∧ w'.ownsRow w.heap.size 3 1 s (allL L).length (intsV (allL L)) ∧ Below w.heap.size w w' := by
  obtain ⟨i0, hi, hz0, hz1, hz2⟩ := info_parts Tryd.info3
  have hnil := eqlNil62
  have hN := allL_length L
  refine callsIn_of_wp_marks Tryd.func29 rfl trivial ?_ rfl
  simp only [Tryd.ntmps29, List.size_toArray, List.length_cons, List.length_nil, Nat.reduceAdd, Nat.reduceSub, Array.replicate_succ, Array.replicate_zero, List.push_toArray, List.append_toArray, List.nil_append, List.cons_append]
  gi_wp2
  have bO := Boxed.new w 57 (.slice none 0 0)
  have hB0 : Below w.heap.size w (w.alloc (.cells #[.slice none 0 0] 57)) := (Below.refl _ w).alloc (Nat.le_refl _) _
  have hI1 := hI.below hB0
  refine wpIn_rangeFunc_ownG rfl (by decide) (gf := 55) (lb := #[.pointer (some ⟨B, 0, none⟩)]) rfl trivial (enters_of Tryd.func55 (by kernel_rfl) rfl)
    (all_stops 5 (by decide) B w.heap.size p L _ hI1 (by simp) hL) belowK_t (belowK_b (by simp)) (Below.refl _ _) (fun _ => rfl)
    (fun pre W => (∃ v, Boxed W w.heap.size 57 v ∧ W.ownsRow w.heap.size 3 1 v pre.length (intsV pre) ∧ True) ∧ Below w.heap.size w W)
    (fun _ _ _ => False)
    (OwnFrom.and (Own.from (holdsRow_own w.heap.size w.heap.size 57 3 1 (fun pre => pre.length) (fun pre => intsV pre) (fun _ _ => True)) _) (ownFrom_below (Nat.le_refl _) (by simp)))
    (fun _ _ _ _ _ hs _ _ => hs)
    ⟨⟨_, bO, World.ownsRow_nil _ _ _ _, trivial⟩, hB0⟩
    (fun x => { tmps := #[Value.func (Fn.func 55) #[] #[Value.pointer (some ⟨B, 0, none⟩)], undef, Value.slice none 0 0, Value.bool false, Value.pointer (some ⟨w.heap.size, 0, none⟩), .int .i64 (x : Int), Value.func (Fn.func 55) #[] #[Value.pointer (some ⟨B, 0, none⟩)], Value.bool false, undef, Value.func (Fn.func 55) #[] #[Value.pointer (some ⟨B, 0, none⟩)], .int .i64 (x : Int), undef, undef, undef, undef, undef], defers := [] }) ?assign ?body ?done ?stop
  case assign =>
    intro l x W K hK
    gi_wp2
    exact hK
  case body =>
    rintro l pre x W ⟨⟨v, hv, hrow, _⟩, hB⟩ hlt
    have hc := hv.cell
    gi_wp2_with (gi_at_builtin; refine wpListIn_append_own _ rfl _ _ 57 rfl w.heap.size 3 i0 (.int .i64 0) 1 8 Tryd.underlying57 hi hz0 hz1 hz2 rfl (by decide) _ _ _ rfl (hrow.alloc _) ⟨W.heap.size, 0, none⟩ 1 1 [.int .i64 (x : Int)] rfl rfl (cell_one_new _ _ _) (by simp [Value.oneCell']) (by unfold maxLen; omega) (by omega) (by have := hB.size; simp; omega) ?_; intro v' w1 hown' hgrow _; obtain ⟨g', cap', rfl⟩ := ownsRow_succ hown'; obtain ⟨hv1, hv2, hr2, hk2, hb2⟩ := hv.appended (by decide) hrow hB.size (Nat.le_refl _) hown' hgrow; have hc1 := hv1.cell; have hf1 := hv1.frozen)
    exact ⟨hk2.from _, hb2, ⟨_, hv2, by simpa [intsV] using hr2, trivial⟩, hB.trans hb2⟩
  case done =>
    rintro D ys W hD rfl ⟨⟨v, hv, hrow, _⟩, hB⟩ hK
    have hc := hv.cell
    gi_wp2
    refine ⟨by simp, .inl ⟨_, _, rfl, run_takeDeferred hK, ?_⟩⟩
    exact ⟨_, results_tmp2 rfl _ _ _, v, rfl, ownsRow_putObj hrow _ hK rfl, hB.trans (belowK_b (w := w) (Nat.le_refl _) W D _ _ (by simp at hD; omega) hK rfl rfl)⟩
  case stop =>
    rintro D c pre W _ _ h _
    exact h.elim


/-- What an iterator over numbers goes over, collected. -/
theorem told_any (v : Value) (L : List Bool) (w : World) (h : AllV w v L) :
    Calls Tryd.prog 29 #[v] w fun e w' => ∃ s, e = .returned (.tuple #[s, .bool true]) ∧ w'.ownsRow w.heap.size 3 1 s (allL L).length (intsV (allL L)) ∧ w.grownBy w' none := by
  obtain ⟨B, p, rfl, hI, hL⟩ := h
  refine (callsIn_wide.1 (told_in B p L w hI hL)).mono ?_
  rintro e w' ⟨s, rfl, h1, h2⟩
  exact ⟨s, rfl, h1, below_grown h2⟩

/-- Pairs, one number behind the other. -/
def flat (xs : List (Nat × Nat)) : List Nat := xs.flatMap fun x => [x.1, x.2]
theorem flat_snoc (xs : List (Nat × Nat)) (x : Nat × Nat) : flat (xs ++ [x]) = flat xs ++ [x.1, x.2] := by simp [flat]
theorem flat_length (xs : List (Nat × Nat)) : (flat xs).length = 2 * xs.length := by
  induction xs with
  | nil => rfl
  | cons x xs ih => simp [flat] at ih ⊢; omega

theorem cell_two_new (W : World) (a b : Value) (t : TypeId) : ∀ j u, [a, b][j]? = some u → (W.alloc (.cells #[a, b] t)).cell? ((⟨W.heap.size, 0, none⟩ : Addr).add j) = some u := by
  intro j u hu
  rw [Addr.add_lit, Nat.zero_add, cell_row (heap_alloc_new W (.cells [a, b].toArray t))]
  exact hu

set_option maxRecDepth 100000 in
set_option maxHeartbeats 2000000 in
theorem pairs_in (B : Nat) (p : Option Addr) (L : List Bool) (w : World) (hI : It w.heap.size w B p L) (hL : L.length ≤ 65536) :
    CallsIn Fence.wide 6 Tryd.prog 30 #[.func (.func 57) #[] #[.pointer (some ⟨B, 0, none⟩)]] w fun e w' => ∃ s, e = .returned (.tuple #[s, .bool true]) ∧ w'.ownsRow w.heap.size 3 1 s (flat (gapsL L)).length (intsV (flat (gapsL L))) ∧ Below w.heap.size w w' := by
  obtain ⟨i0, hi, hz0, hz1, hz2⟩ := info_parts Tryd.info3
  have hnil := eqlNil69
  have hN := gapsL_length L
  refine callsIn_of_wp_marks Tryd.func30 rfl trivial ?_ rfl
  simp only [Tryd.ntmps30, List.size_toArray, List.length_cons, List.length_nil, Nat.reduceAdd, Nat.reduceSub, Array.replicate_succ, Array.replicate_zero, List.push_toArray, List.append_toArray, List.nil_append, List.cons_append]
  gi_wp2
  have bO := Boxed.new w 57 (.slice none 0 0)
  have hB0 : Below w.heap.size w (w.alloc (.cells #[.slice none 0 0] 57)) := (Below.refl _ w).alloc (Nat.le_refl _) _
  have hI1 := hI.below hB0
  refine wpIn_rangeFunc_ownG rfl (by decide) (gf := 57) (lb := #[.pointer (some ⟨B, 0, none⟩)]) rfl trivial (enters_of Tryd.func57 (by kernel_rfl) rfl)
    (gaps_stops 5 (by decide) B w.heap.size p L _ hI1 (by simp) hL) belowK_t (belowK_b (by simp)) (Below.refl _ _) (fun _ => rfl)
    (fun pre W => (∃ v, Boxed W w.heap.size 57 v ∧ W.ownsRow w.heap.size 3 1 v (flat pre).length (intsV (flat pre)) ∧ True) ∧ Below w.heap.size w W)
    (fun _ _ _ => False)
    (OwnFrom.and (Own.from (holdsRow_own w.heap.size w.heap.size 57 3 1 (fun pre => (flat pre).length) (fun pre => intsV (flat pre)) (fun _ _ => True)) _) (ownFrom_below (Nat.le_refl _) (by simp)))
    (fun _ _ _ _ _ hs _ _ => hs)
    ⟨⟨_, bO, World.ownsRow_nil _ _ _ _, trivial⟩, hB0⟩
    (fun x => { tmps := #[Value.func (Fn.func 57) #[] #[Value.pointer (some ⟨B, 0, none⟩)], undef, Value.slice none 0 0, Value.bool false, Value.pointer (some ⟨w.heap.size, 0, none⟩), .int .i64 (x.1 : Int), .int .i64 (x.2 : Int), Value.func (Fn.func 57) #[] #[Value.pointer (some ⟨B, 0, none⟩)], Value.bool false, undef, Value.func (Fn.func 57) #[] #[Value.pointer (some ⟨B, 0, none⟩)], .int .i64 (x.1 : Int), .int .i64 (x.2 : Int), undef, undef, undef, undef, undef, undef], defers := [] }) ?assign ?body ?done ?stop
  case assign =>
    intro l x W K hK
    simp only [encP]
    gi_wp2
    exact hK
  case body =>
    rintro l pre x W ⟨⟨v, hv, hrow, _⟩, hB⟩ hlt
    have hc := hv.cell
    have hfl : (flat pre).length ≤ 131072 := by rw [flat_length]; omega
    gi_wp2_with (gi_at_builtin; refine wpListIn_append_own _ rfl _ _ 57 rfl w.heap.size 3 i0 (.int .i64 0) 1 8 Tryd.underlying57 hi hz0 hz1 hz2 rfl (by decide) _ _ _ rfl (hrow.alloc _) ⟨W.heap.size, 0, none⟩ 2 2 [.int .i64 (x.1 : Int), .int .i64 (x.2 : Int)] rfl rfl (cell_two_new _ _ _ _) (by simp [Value.oneCell']) (by unfold maxLen; omega) (by omega) (by have := hB.size; simp; omega) ?_; intro v' w1 hown' hgrow _; obtain ⟨g', cap', rfl⟩ := ownsRow_succ hown'; obtain ⟨hv1, hv2, hr2, hk2, hb2⟩ := hv.appended (by decide) hrow hB.size (Nat.le_refl _) hown' hgrow; have hc1 := hv1.cell; have hf1 := hv1.frozen)
    exact ⟨hk2.from _, hb2, ⟨_, hv2, by rw [flat_snoc]; simpa [intsV] using hr2, trivial⟩, hB.trans hb2⟩
  case done =>
    rintro D ys W hD rfl ⟨⟨v, hv, hrow, _⟩, hB⟩ hK
    have hc := hv.cell
    gi_wp2
    refine ⟨by simp, .inl ⟨_, _, rfl, run_takeDeferred hK, ?_⟩⟩
    exact ⟨_, results_tmp2 rfl _ _ _, v, rfl, ownsRow_putObj hrow _ hK rfl, hB.trans (belowK_b (w := w) (Nat.le_refl _) W D _ _ (by simp at hD; omega) hK rfl rfl)⟩
  case stop =>
    rintro D c pre W _ _ h _
    exact h.elim

theorem pairs_any (v : Value) (L : List Bool) (w : World) (h : GapsV w v L) :
    Calls Tryd.prog 30 #[v] w fun e w' => ∃ s, e = .returned (.tuple #[s, .bool true]) ∧ w'.ownsRow w.heap.size 3 1 s (flat (gapsL L)).length (intsV (flat (gapsL L))) ∧ w.grownBy w' none := by
  obtain ⟨B, p, rfl, hI, hL⟩ := h
  refine (callsIn_wide.1 (pairs_in B p L w hI hL)).mono ?_
  rintro e w' ⟨s, rfl, h1, h2⟩
  exact ⟨s, rfl, h1, below_grown h2⟩

end Go.Proofs.YtajdgkbeenalkaaDoor
