/- HeapNil. -/
import Derived.Test.YtkbhjdjdjfdikaaHn1
import Derived.Laws.ResultCell
namespace Go.Proofs.Ytkbhjdjdjfdikaa
open Go.RowKit Ap Go.Shelf
attribute [local go_sem ↓] Go.wp_at_zero Go.wp_at_succ
/-- A range over a function with no variables of its own. -/
theorem wpIn_rangeFunc_skip {F : Fence} {n : Nat} {P : Program} {α : Type} {g : Operand} {ps : Array Tmp} {body : Code} {Q : Exit → Act → World → Prop} {a : Act} {w : World}
    (hro : F.round = none) (h1 : 1 ≤ n) {gf : Nat} {lb : Array Value} (hg : a.eval g = .func (.func gf) #[] lb) (hFg : F.fn gf) (eg : ∀ args w, (callFunc gf args).run P w = .ok (.enter gf args) w)
    {encs : α → Array Value} {Kp : World → World → Prop} {S Sp : List α → Prop} {N : Nat} {w0 : World} (hseq : SeqStopsK F (n - 1) P gf lb encs Kp S Sp N w0)
    (hKt : ∀ {A B C : World}, Kp A B → Kp B C → Kp A C) (hKb : ∀ (W : World) (l : Nat) (o o' : Obj), w.heap.size ≤ l → W.heap[l]? = some o → o.isCells = false → o.isWalk = false → Kp W (W.putObj l o')) (hb0 : Below w0.heap.size w0 w) (hps : ∀ x, (encs x).size = ps.size)
    (I : List α → World → Prop) (Ix : Code → List α → World → Prop) (hI : OwnFrom w.heap.size I) (hIx : ∀ c, OwnFrom w.heap.size (Ix c)) (h0 : I [] w)
    (hbody : ∀ (l : Nat) (pre : List α) (x : α) (W : World), I pre W → pre.length < N → body.wpIn (F.inRound l) (n - 1 - 1) P (ownPostG w.heap.size Kp I Ix (pre ++ [x]) W) { tmps := (ps.zip (encs x)).foldl (fun t (p, v) => t.setIfInBounds p v) a.tmps, defers := [] } W)
    (hdone : ∀ (D : Nat) (xs : List α) (W : World), w.heap.size ≤ D → S xs → I xs W → W.heap[D]? = some (.deferred (some [])) → Q .normal { a with defers := { target := .collected D, args := #[] } :: a.defers } W)
    (hstop : ∀ (D : Nat) (c : Code) (pre : List α) (W : World), w.heap.size ≤ D → Sp pre → Ix c pre W → W.heap[D]? = some (.deferred (some [])) → c.wpIn F n P Q { a with defers := { target := .collected D, args := #[] } :: a.defers } W) :
    (Code.rangeFunc g ps .skip body).wpIn F n P Q a w :=
  wpIn_rangeFunc_ownG hro h1 hg hFg eg hseq (fun h k => hKt h k) hKb hb0 hps I Ix hI hIx h0 (fun x => { tmps := (ps.zip (encs x)).foldl (fun t (p, v) => t.setIfInBounds p v) a.tmps, defers := [] }) (fun _ _ _ _ hK => wpIn_skip hK) hbody hdone hstop
set_option maxRecDepth 100000 in
set_option maxHeartbeats 4000000 in
theorem none_any (v : Value) (x : Int) (w : World) (h : NoH w v) : Calls Try.prog 21 #[v, .int .i64 x] w fun e w' => e = .returned (.bool true) ∧ w.grownBy w' none := by
  have ga := World.grownBy_alloc w (.cells #[.bool false] 4) none
  have nb : (w.alloc (.cells #[.bool false] 4)).heap[w.heap.size]? = some (.cells [Value.bool false].toArray 4 (0, 0)) := heap_alloc_new w _
  obtain ⟨w1, hw1⟩ : ∃ w1, w1 = w.alloc (.cells #[.bool false] 4) := ⟨_, rfl⟩
  rw [← hw1] at ga nb
  have H := hide (And.intro (h.grown ga) (And.intro ga (And.intro nb hw1)))
  clear h ga nb
  have h1 := push_no H.out.1 x
  have h2 := least_no H.out.1
  have h3 := pop_no H.out.1
  have h4 := get_no H.out.1 x
  have h5 := all_no H.out.1
  refine (callsIn_wide (n := 6)).1 (callsIn_of_wp_marks Try.func21 rfl trivial ?_ rfl)
  simp only [Try.ntmps21, List.size_toArray, List.length_cons, List.length_nil, Nat.reduceAdd, Nat.reduceSub, Array.replicate_succ, Array.replicate_zero, List.push_toArray, List.append_toArray, List.nil_append, List.cons_append]
  refine wpIn_wide.2 ?_
  clear hw1
  go_wp2_with fail
  rw [← H.out.2.2.2]
  refine h1.mono ?_
  clear h1
  rintro e wx ⟨rfl, hwx⟩
  obtain rfl := hwx.symm
  go_wp2_with fail
  refine h2.mono ?_
  clear h2
  rintro e wx ⟨rfl, hwx⟩
  obtain rfl := hwx.symm
  go_wp2_with fail
  refine h3.mono ?_
  clear h3
  rintro e wx ⟨rfl, hwx⟩
  obtain rfl := hwx.symm
  go_wp2_with fail
  refine h4.mono ?_
  clear h4
  rintro e wx ⟨rfl, hwx⟩
  obtain rfl := hwx.symm
  go_wp2_with fail
  refine h5.mono ?_
  clear h5
  rintro e w2 ⟨rfl, hw2⟩
  have g2 := World.grownBy_alloc w1 (.cells #[.slice none 0 0] 53) none
  have b2 : (w1.alloc (.cells #[.slice none 0 0] 53)).heap[w1.heap.size]? = some (.cells [Value.slice none 0 0].toArray 53 (0, 0)) := heap_alloc_new w1 _
  rw [← hw2] at g2 b2
  have H2 := hide (And.intro g2 b2)
  clear g2 b2 hw2
  generalize w1.heap.size = B at *
  go_wp2_with fail
  have hIt : ItE w2 B none 0 [] := ⟨H2.out.2, Nat.le_refl _, fun i hi => by simp at hi⟩
  have hItB : ∀ W, Below w2.heap.size w2 W → ItE W B none 0 [] := fun W hB => hIt.grown (below_grown hB)
  refine (wpIn_wide (n := 6)).1 (wpIn_rangeFunc_skip (w := w2) rfl (by decide) (gf := 46) (lb := #[.pointer (some ⟨B, 0, none⟩)]) rfl trivial (enters_of Try.func46 (by kernel_rfl) rfl)
    (it_stops (Below w2.heap.size) (Below w2.heap.size w2) 5 (by decide) B none 0 [] (by simp) w2 hItB (fun W W' h h' => h'.trans h) (fun W W' g h => h.trans ((Below.refl _ W).grown g h.size (fun k e => by cases e))) (fun W h => h))
    belowK_t (belowK_b (Nat.le_refl _)) (Below.refl _ _) (fun _ => rfl)
    (fun _ W => Below w2.heap.size w2 W) (fun _ _ _ => False)
    (fun s A A' row hs hg hr => hs.trans ((Below.refl _ A).grown hg hs.size (fun k e => (hr k e).1))) (fun _ _ _ _ _ hs _ _ => hs) (Below.refl _ _)
    ?body ?done ?stop)
  case body =>
    intro l pre x W _ hlt
    simp at hlt
  case stop =>
    rintro D c pre W _ _ h _
    exact h.elim
  case done =>
    rintro D ys W hD rfl hB hK
    have HB := hide (And.intro hB (And.intro hD hK))
    have hN : NoH W v := H.out.1.grown (grown_trans H2.out.1 (below_grown hB))
    have h6 := set_no hN x 1
    have h7 := drop_no hN x
    have h8 := len_no hN
    have cb := cell_row (l := [Value.bool false]) (below_grown hB |>.block _ (row_lt H.out.2.2.1 |> fun h => Nat.lt_of_lt_of_le h H2.out.1.size) (by simp) |>.trans ((H2.out.1.block _ (row_lt H.out.2.2.1) (by simp)).trans H.out.2.2.1)) 0
    simp at cb
    have fb : W.frozen? ⟨w.heap.size, 0, none⟩ = false := free_row (below_grown hB |>.block _ (row_lt H.out.2.2.1 |> fun h => Nat.lt_of_lt_of_le h H2.out.1.size) (by simp) |>.trans ((H2.out.1.block _ (row_lt H.out.2.2.1) (by simp)).trans H.out.2.2.1)) 0
    clear hB hD hK hN hIt hItB
    go_wp2_with fail
    refine h6.mono ?_
    clear h6
    rintro e wx ⟨rfl, hwx⟩
    obtain rfl := hwx.symm
    go_wp2_with fail
    refine h7.mono ?_
    clear h7
    rintro e wx ⟨rfl, hwx⟩
    obtain rfl := hwx.symm
    go_wp2_with fail
    refine h8.mono ?_
    clear h8
    rintro e wx ⟨rfl, hwx⟩
    obtain rfl := hwx.symm
    go_wp2
    have hwl : w.heap.size < w2.heap.size := Nat.lt_of_lt_of_le (row_lt H.out.2.2.1) H2.out.1.size
    have hDw : D ≠ w.heap.size := by have := HB.out.2.1; omega
    have hK2 : (W.setCell ⟨w.heap.size, 0, none⟩ (.bool true)).heap[D]? = some (.deferred (some [])) := (Below.heap_setCell _ _ _ _ hDw).trans HB.out.2.2
    have cE : ((W.setCell ⟨w.heap.size, 0, none⟩ (.bool true)).putObj D (.deferred none)).cell? ⟨w.heap.size, 0, none⟩ = some (.bool true) := by
      have b0 : W.heap[w.heap.size]? = some (.cells [Value.bool false].toArray 4 (0, 0)) := ((below_grown HB.out.1).block _ hwl (by simp)).trans ((H2.out.1.block _ (row_lt H.out.2.2.1) (by simp)).trans H.out.2.2.1)
      have b1 := row_setCell b0 0 (.bool true)
      have b2 : ((W.setCell ⟨w.heap.size, 0, none⟩ (.bool true)).putObj D (.deferred none)).heap[w.heap.size]? = _ := (World.putObj_heap_other (fun e => hDw e.symm)).trans b1
      exact cell_row b2 0
    refine ⟨by simp, .inl ⟨_, _, rfl, run_takeDeferred hK2, ?_⟩⟩
    refine ⟨.bool true, ?_, rfl, ?_⟩
    · simp [results, Try.results21, go_sem, cE]
    · exact grown_then (grown_then (grown_trans H.out.2.1 (grown_trans H2.out.1 (below_grown HB.out.1))) (grown_setCell _ _ _ _) (fun k e => by cases e; exact .inl (Nat.le_refl _))) (grownBy_putObj' _ D _) (fun k e => by cases e; exact .inl (by have := HB.out.2.1; omega))
theorem heapNil_any (x : Int) (w : World) : Calls Try.prog 6 #[.int .i64 x] w fun e w' => e = .returned (.bool true) ∧ w.grownBy w' none := by
  have haw := awake_any w
  go_enter Try.func6, Try.ntmps6
  go_wp2_with fail
  refine haw.mono ?_
  clear haw
  rintro e w1 ⟨rfl, g1⟩
  have h1 := none_any (.pointer none) x w1 (.inl rfl)
  have G1 := hide g1
  clear g1
  go_wp2_with fail
  refine h1.mono ?_
  clear h1
  rintro e w2 ⟨rfl, g2⟩
  have h2 := none_any (.pointer (some ⟨w2.heap.size, 0, none⟩)) x (w2.alloc (.cells #[.pointer none, .nilFunc, .bool false, .int .i64 0, .slice none 0 0, .slice none 0 0, .map none] 57)) (.inr ⟨_, rfl, heap_alloc_new w2 _⟩)
  have G2 := hide (grown_trans (grown_trans G1.out g2) (World.grownBy_alloc w2 (.cells #[.pointer none, .nilFunc, .bool false, .int .i64 0, .slice none 0 0, .slice none 0 0, .map none] 57) none))
  clear g2
  go_wp2_with fail
  refine h2.mono ?_
  clear h2
  rintro e w3 ⟨rfl, g3⟩
  have h3 := new_nil w3
  have G3 := hide (grown_trans G2.out g3)
  clear g3 G2
  go_wp2_with fail
  refine h3.mono ?_
  clear h3
  rintro e w4 ⟨rfl, hw4⟩
  obtain rfl := hw4.symm
  go_wp2
  go_ret
  exact ⟨rfl, G3.out⟩
end Go.Proofs.Ytkbhjdjdjfdikaa
