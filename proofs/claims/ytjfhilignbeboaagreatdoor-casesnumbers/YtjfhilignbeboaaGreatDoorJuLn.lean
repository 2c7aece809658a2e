import Derived.Test.YtjfhilignbeboaaGreatDoorJuLn0
import Derived.Test.YtjfhilignbeboaaGreatDoorJuAs
import Derived.Test.YtjfhilignbeboaaGreatDoorJuAm
namespace Go.Proofs.YtjfhilignbeboaaGreatDoor
/- The law CasesNumbers. -/
open Go.RowKit
attribute [local go_sem ↓] Go.wp_at_zero Go.wp_at_succ
attribute [local go_sem] Oper.semAt_some
def lS : Sb := ⟨2, 2, 1, 2, 1099511627771, [⟨1, 0, 0⟩]⟩
def tS : Sb := ⟨2, 2, 1, 4294967295, 0, []⟩
theorem lS_ok : lS.Ok := by
  refine ⟨by decide, by decide, by decide, by decide, by decide, by decide, by decide, by decide, by decide, by decide, ?_, ?_, ?_, ?_, ?_, by decide⟩
  · exact List.pairwise_singleton _ _
  · intro x hx; rw [List.mem_singleton.1 hx]; decide
  · intro x hx; rw [List.mem_singleton.1 hx]; decide
  · exact List.pairwise_singleton _ _
  · intro x hx; rw [List.mem_singleton.1 hx]; exact .inl rfl
theorem tS_ok : tS.Ok := ⟨by decide, by decide, by decide, by decide, by decide, by decide, by decide, by decide, by decide, by decide, List.Pairwise.nil, (fun x hx => by cases hx), (fun x hx => by cases hx), List.Pairwise.nil, (fun x hx => by cases hx), by decide⟩
theorem bga_l (w : World) : BgA (w.alloc (.cells [Value.int .u32 1, .int .i64 0, .int .i64 0].toArray 51)) (.slice (some ⟨w.heap.size, 0, none⟩) 1 1) [⟨1, 0, 0⟩] := by
  obtain ⟨a0, a1, a2, -⟩ := box3 (heap_alloc_new w (.cells [Value.int .u32 1, .int .i64 0, .int .i64 0].toArray 51))
  refine ⟨⟨some ⟨w.heap.size, 0, none⟩, 1, rfl, fun i hi => ?_⟩⟩
  have : i = 0 := by simp at hi; omega
  subst this
  exact ⟨w.heap.size, rfl, a0, a1, a2⟩
theorem bga_nil (w : World) : BgA w (.slice none 0 0) [] := ⟨⟨none, 0, rfl, fun i hi => by simp at hi⟩⟩
theorem nd1 : dec lS 99 ⟨7, 0, 0, 0, 5⟩ = ⟨⟨5, 0, 0, 0, 1099511627776⟩, ⟨0, 7, 0, 0, 0, 1099511627776, 0⟩, true, 0⟩ := by
  rw [dec_yes (by decide) (by decide)]
  rfl
theorem nd2 : dec lS 99 ⟨7, 0, 0, 0, 6⟩ = ⟨⟨0, 0, 0, 0, 0⟩, ⟨0, 7, 172, 0, 0, 0, 0⟩, false, 0⟩ := by
  have h : refE lS 99 ⟨7, 0, 0, 0, 6⟩ = 172 := by decide
  rw [dec_ref (by decide) (by rw [h]; decide), h]
  rfl
theorem nd3 : dec lS 99 ⟨1, 0, 0, 0, 6⟩ = ⟨⟨0, 0, 0, 0, 0⟩, ⟨0, 1, 172, 0, 0, 0, 0⟩, false, 0⟩ := by
  have h : refE lS 99 ⟨1, 0, 0, 0, 6⟩ = 172 := by decide
  rw [dec_ref (by decide) (by rw [h]; decide), h]
  rfl
theorem nd4 : dec tS 99 ⟨1, 0, 0, 0, 1⟩ = ⟨⟨0, 0, 0, 0, 0⟩, ⟨0, 1, 6, 0, 0, 0, 0⟩, false, 0⟩ := by
  have h : refE tS 99 ⟨1, 0, 0, 0, 1⟩ = 6 := by decide
  rw [dec_ref (by decide) (by rw [h]; decide), h]
  rfl
theorem nd5 : dec tS 99 ⟨7, 0, 0, 0, 1073741824⟩ = ⟨⟨5, 0, 0, 0, 1073741824⟩, ⟨0, 7, 0, 0, 0, 1073741824, 0⟩, true, 0⟩ := by
  rw [dec_yes (by decide) (by decide)]
  rfl
theorem nd6 : dec tS 99 ⟨7, 0, 0, 0, 1073741825⟩ = ⟨⟨0, 0, 0, 0, 0⟩, ⟨0, 7, 2, 0, 0, 0, 0⟩, false, 0⟩ := by
  have h : refE tS 99 ⟨7, 0, 0, 0, 1073741825⟩ = 2 := by decide
  rw [dec_ref (by decide) (by rw [h]; decide), h]
  rfl
theorem nd7 : dec tS 30 ⟨7, 0, 0, 0, 1⟩ = ⟨⟨0, 0, 0, 0, 0⟩, ⟨0, 7, 220, 0, 0, 0, 0⟩, false, 0⟩ := by
  have h : refE tS 30 ⟨7, 0, 0, 0, 1⟩ = 220 := by decide
  rw [dec_ref (by decide) (by rw [h]; decide), h]
  rfl
theorem nd8 : dec tS 99 ⟨10, 0, 0, 0, 0⟩ = ⟨⟨0, 0, 0, 0, 0⟩, ⟨0, 0, 0, 0, 0, 0, 0⟩, false, 200⟩ := dec_no (by decide)
theorem bx3n {w : World} {g : Nat} {t : TypeId} {x y z : Value} (h : w.heap[g]? = some (.cells [x, y, z].toArray t (0, 0))) : w.cell? ⟨g, 0, none⟩ = some x ∧ w.cell? ⟨g, 1, none⟩ = some y ∧ w.cell? ⟨g, 2, none⟩ = some z := ⟨by rw [cell_row h]; rfl, by rw [cell_row h]; rfl, by rw [cell_row h]; rfl⟩
set_option maxRecDepth 100000 in
set_option maxHeartbeats 16000000 in
theorem numbers_any (w : World) (hT : Rk.Tab w) : Calls Tryz.prog 3 #[] w fun e w' => e = .returned (.bool true) ∧ w.grownBy w' none := by
  have hz : 0 < w.heap.size := by
    have := hT 0 (by decide)
    cases hb : w.heap[0]? with
    | none => simp [World.cell?, hb] at this
    | some o => exact row_lt hb
  have HT := hide hT
  have HZ : Hid (∀ W, w.grownBy W none → 0 < W.heap.size) := fun W g => Nat.lt_of_lt_of_le hz g.size
  have N1 := hide ((⟨grown_refl w none, fun x hx => by cases hx⟩ : Nb w w []).box [Value.int .i64 1, .int .u32 0, .int .u32 0, .int .i64 0, .int .i64 1] 25)
  have HDN : Hid (∀ W v (room qk qt qi qs qu : Int), NoB W v → Calls Tryz.prog 9 #[v, .int .i64 room, .agg #[.int .i64 qk, .int .u32 qt, .int .u32 qi, .int .i64 qs, .int .i64 qu]] W fun e w' => e = .returned (.tuple #[.agg #[.int .i64 0, .int .u32 0, .int .i64 0, .int .i64 0, .int .i64 0], .agg #[.int .u32 0, .int .i64 0, .int .i64 0, .int .u32 0, .int .i64 0, .int .i64 0, .int .i64 0], .bool false, .int .i64 1]) ∧ W.grownBy w' none) := fun W v room qk qt qi qs qu h => decide_none h room qk qt qi qs qu
  have HAN : Hid (∀ W v (qk qt qi qs qu : Int), NoB W v → Calls Tryz.prog 10 #[v, .agg #[.int .i64 qk, .int .u32 qt, .int .u32 qi, .int .i64 qs, .int .i64 qu]] W fun e w' => e = .returned (.tuple #[.agg #[.int .u32 0, .int .i64 0, .int .i64 0, .int .u32 0, .int .i64 0, .int .i64 0, .int .i64 0], .int .i64 1]) ∧ W.grownBy w' none) := fun W v qk qt qi qs qu h => answer_none h qk qt qi qs qu
  have HO1 : Hid (∀ W : World, 0 < W.heap.size → Calls Tryz.prog 11 #[.agg #[.int .i64 2, .int .i64 2, .int .i64 1], .int .u32 2, .int .i64 1099511627771, .slice (some ⟨W.heap.size, 0, none⟩) 1 1] (W.alloc (.cells [Value.int .u32 1, .int .i64 0, .int .i64 0].toArray 51)) fun e w' => ∃ x p, e = .returned (.tuple #[.pointer (some ⟨x, 0, none⟩), .int .i64 0]) ∧ Lk (W.alloc (.cells [Value.int .u32 1, .int .i64 0, .int .i64 0].toArray 51)) w' x lS 4096 p []) := fun W h => of_ok (a := 2) (b := 2) (c := 1) (n := 2) (t := 1099511627771) (L := [⟨1, 0, 0⟩]) lS_ok (bga_l W) (Nat.lt_of_lt_of_le h (grown_alloc W _).size)
  have HO2 : Hid (∀ W : World, 0 < W.heap.size → Calls Tryz.prog 11 #[.agg #[.int .i64 2, .int .i64 2, .int .i64 1], .int .u32 4294967295, .int .i64 0, .slice none 0 0] W fun e w' => ∃ x p, e = .returned (.tuple #[.pointer (some ⟨x, 0, none⟩), .int .i64 0]) ∧ Lk W w' x tS 4096 p []) := fun W h => of_ok (a := 2) (b := 2) (c := 1) (n := 4294967295) (t := 0) (L := []) tS_ok (bga_nil W) h
  have HW : Hid (∀ W, w.grownBy W none → Calls Tryz.prog 12 #[] W fun e w' => e = .returned (.bool true) ∧ W.grownBy w' none) := fun W g => awake_any W (HT.out.grown g (by simp))
  have H1 : Hid (∀ W b c p q Bs, Lt w W b c lS tS 4096 p q Bs → Calls Tryz.prog 9 #[.pointer (some ⟨b, 0, none⟩), .int .i64 99, .agg #[.int .i64 7, .int .u32 0, .int .u32 0, .int .i64 0, .int .i64 5]] W fun e w' => e = .returned (.tuple #[.agg #[.int .i64 5, .int .u32 0, .int .i64 0, .int .i64 0, .int .i64 1099511627776], .agg #[.int .u32 0, .int .i64 7, .int .i64 0, .int .u32 0, .int .i64 0, .int .i64 1099511627776, .int .i64 0], .bool true, .int .i64 0]) ∧ Lt w w' b c lS tS 4096 p q Bs) := fun W b c p q Bs h => by
    have := h.decide lS_ok HT.out 99 ⟨7, 0, 0, 0, 5⟩ (q_ok (by decide))
    rw [nd1] at this
    exact this
  have H2 : Hid (∀ W b c p q Bs, Lt w W b c lS tS 4096 p q Bs → Calls Tryz.prog 9 #[.pointer (some ⟨b, 0, none⟩), .int .i64 99, .agg #[.int .i64 7, .int .u32 0, .int .u32 0, .int .i64 0, .int .i64 6]] W fun e w' => e = .returned (.tuple #[.agg #[.int .i64 0, .int .u32 0, .int .i64 0, .int .i64 0, .int .i64 0], .agg #[.int .u32 0, .int .i64 7, .int .i64 172, .int .u32 0, .int .i64 0, .int .i64 0, .int .i64 0], .bool false, .int .i64 0]) ∧ Lt w w' b c lS tS 4096 p q Bs) := fun W b c p q Bs h => by
    have := h.decide lS_ok HT.out 99 ⟨7, 0, 0, 0, 6⟩ (q_ok (by decide))
    rw [nd2] at this
    exact this
  have H3 : Hid (∀ W b c p q Bs, Lt w W b c lS tS 4096 p q Bs → Calls Tryz.prog 9 #[.pointer (some ⟨b, 0, none⟩), .int .i64 99, .agg #[.int .i64 1, .int .u32 0, .int .u32 0, .int .i64 0, .int .i64 6]] W fun e w' => e = .returned (.tuple #[.agg #[.int .i64 0, .int .u32 0, .int .i64 0, .int .i64 0, .int .i64 0], .agg #[.int .u32 0, .int .i64 1, .int .i64 172, .int .u32 0, .int .i64 0, .int .i64 0, .int .i64 0], .bool false, .int .i64 0]) ∧ Lt w w' b c lS tS 4096 p q Bs) := fun W b c p q Bs h => by
    have := h.decide lS_ok HT.out 99 ⟨1, 0, 0, 0, 6⟩ (q_ok (by decide))
    rw [nd3] at this
    exact this
  have H4 : Hid (∀ W b c p q Bs, Lt w W b c lS tS 4096 p q Bs → Calls Tryz.prog 9 #[.pointer (some ⟨c, 0, none⟩), .int .i64 99, .agg #[.int .i64 1, .int .u32 0, .int .u32 0, .int .i64 0, .int .i64 1]] W fun e w' => e = .returned (.tuple #[.agg #[.int .i64 0, .int .u32 0, .int .i64 0, .int .i64 0, .int .i64 0], .agg #[.int .u32 0, .int .i64 1, .int .i64 6, .int .u32 0, .int .i64 0, .int .i64 0, .int .i64 0], .bool false, .int .i64 0]) ∧ Lt w w' b c lS tS 4096 p q Bs) := fun W b c p q Bs h => by
    have := h.decideC tS_ok HT.out 99 ⟨1, 0, 0, 0, 1⟩ (q_ok (by decide))
    rw [nd4] at this
    exact this
  have H5 : Hid (∀ W b c p q Bs, Lt w W b c lS tS 4096 p q Bs → Calls Tryz.prog 9 #[.pointer (some ⟨c, 0, none⟩), .int .i64 99, .agg #[.int .i64 7, .int .u32 0, .int .u32 0, .int .i64 0, .int .i64 1073741824]] W fun e w' => e = .returned (.tuple #[.agg #[.int .i64 5, .int .u32 0, .int .i64 0, .int .i64 0, .int .i64 1073741824], .agg #[.int .u32 0, .int .i64 7, .int .i64 0, .int .u32 0, .int .i64 0, .int .i64 1073741824, .int .i64 0], .bool true, .int .i64 0]) ∧ Lt w w' b c lS tS 4096 p q Bs) := fun W b c p q Bs h => by
    have := h.decideC tS_ok HT.out 99 ⟨7, 0, 0, 0, 1073741824⟩ (q_ok (by decide))
    rw [nd5] at this
    exact this
  have H6 : Hid (∀ W b c p q Bs, Lt w W b c lS tS 4096 p q Bs → Calls Tryz.prog 9 #[.pointer (some ⟨c, 0, none⟩), .int .i64 99, .agg #[.int .i64 7, .int .u32 0, .int .u32 0, .int .i64 0, .int .i64 1073741825]] W fun e w' => e = .returned (.tuple #[.agg #[.int .i64 0, .int .u32 0, .int .i64 0, .int .i64 0, .int .i64 0], .agg #[.int .u32 0, .int .i64 7, .int .i64 2, .int .u32 0, .int .i64 0, .int .i64 0, .int .i64 0], .bool false, .int .i64 0]) ∧ Lt w w' b c lS tS 4096 p q Bs) := fun W b c p q Bs h => by
    have := h.decideC tS_ok HT.out 99 ⟨7, 0, 0, 0, 1073741825⟩ (q_ok (by decide))
    rw [nd6] at this
    exact this
  have H7 : Hid (∀ W b c p q Bs, Lt w W b c lS tS 4096 p q Bs → Calls Tryz.prog 9 #[.pointer (some ⟨c, 0, none⟩), .int .i64 30, .agg #[.int .i64 7, .int .u32 0, .int .u32 0, .int .i64 0, .int .i64 1]] W fun e w' => e = .returned (.tuple #[.agg #[.int .i64 0, .int .u32 0, .int .i64 0, .int .i64 0, .int .i64 0], .agg #[.int .u32 0, .int .i64 7, .int .i64 220, .int .u32 0, .int .i64 0, .int .i64 0, .int .i64 0], .bool false, .int .i64 0]) ∧ Lt w w' b c lS tS 4096 p q Bs) := fun W b c p q Bs h => by
    have := h.decideC tS_ok HT.out 30 ⟨7, 0, 0, 0, 1⟩ (q_ok (by decide))
    rw [nd7] at this
    exact this
  have H8 : Hid (∀ W b c p q Bs, Lt w W b c lS tS 4096 p q Bs → Calls Tryz.prog 9 #[.pointer (some ⟨c, 0, none⟩), .int .i64 99, .agg #[.int .i64 10, .int .u32 0, .int .u32 0, .int .i64 0, .int .i64 0]] W fun e w' => e = .returned (.tuple #[.agg #[.int .i64 0, .int .u32 0, .int .i64 0, .int .i64 0, .int .i64 0], .agg #[.int .u32 0, .int .i64 0, .int .i64 0, .int .u32 0, .int .i64 0, .int .i64 0, .int .i64 0], .bool false, .int .i64 200]) ∧ Lt w w' b c lS tS 4096 p q Bs) := fun W b c p q Bs h => by
    have := h.decideC tS_ok HT.out 99 ⟨10, 0, 0, 0, 0⟩ (q_ok (by decide))
    rw [nd8] at this
    exact this
  clear hT hz HT
  go_enter Tryz.func3, Tryz.ntmps3
  go_wp2_with fail
  generalize hA : w.heap.size = A at *
  clear hA
  generalize World.alloc w _ = w1 at *
  obtain ⟨h0, h1, h2, h3, h4⟩ := bx5 (N1.out.bx _ (List.mem_cons_self ..)).1
  go_wp2_with fail
  refine (HDN.out _ _ _ _ _ _ _ _ (noB_nil _)).mono ?_
  rintro e w2 ⟨rfl, hg⟩
  have N2 := hide ((N1.out.then hg).box2 [Value.int .i64 0, .int .u32 0, .int .i64 0, .int .i64 0, .int .i64 0] [Value.int .u32 0, .int .i64 0, .int .i64 0, .int .u32 0, .int .i64 0, .int .i64 0, .int .i64 0] 28 31)
  clear hg N1 h0 h1 h2 h3 h4
  go_upto_region 3 with fail
  generalize w2.heap.size = B2 at *
  generalize World.alloc (World.alloc w2 _) _ = w3 at *
  go_wp2_with fail
  refine (HDN.out _ _ _ _ _ _ _ _ (noB_zero (cell_row (heap_alloc_new _ _) 3))).mono ?_
  rintro e w4 ⟨rfl, hg⟩
  have N3 := hide ((N2.out.then (grown_trans (grown_alloc w3 _) hg)).box2 [Value.int .i64 0, .int .u32 0, .int .i64 0, .int .i64 0, .int .i64 0] [Value.int .u32 0, .int .i64 0, .int .i64 0, .int .u32 0, .int .i64 0, .int .i64 0, .int .i64 0] 28 31)
  clear hg N2 HDN
  go_upto_region 4 with fail
  generalize w4.heap.size = B4 at *
  generalize World.alloc (World.alloc w4 _) _ = w5 at *
  generalize w3.heap.size = B3 at *
  go_wp2_with fail
  refine (HAN.out _ _ _ _ _ _ _ (noB_nil _)).mono ?_
  rintro e w6 ⟨rfl, hg⟩
  have N4 := hide ((N3.out.then hg).box [Value.int .u32 0, .int .i64 0, .int .i64 0, .int .u32 0, .int .i64 0, .int .i64 0, .int .i64 0] 31)
  clear hg N3
  go_upto_region 5 with fail
  generalize w6.heap.size = B6 at *
  generalize World.alloc w6 _ = w7 at *
  have f0 := fun o => bx5 (box_to (N4.out.bx _ (List.mem_cons_of_mem _ (List.mem_cons_of_mem _ (List.mem_cons_of_mem _ (List.mem_cons_of_mem _ (List.mem_cons_of_mem _ (List.mem_cons_self ..))))))).1 (grown_alloc w7 o))
  have h0 := fun o => (f0 o).1
  have h1 := fun o => (f0 o).2.1
  have h2 := fun o => (f0 o).2.2.1
  have h3 := fun o => (f0 o).2.2.2.1
  have h4 := fun o => (f0 o).2.2.2.2
  clear f0
  go_wp2_with fail
  refine (HAN.out _ _ _ _ _ _ _ (noB_zero (cell_row (heap_alloc_new _ _) 3))).mono ?_
  rintro e w8 ⟨rfl, hg⟩
  have N5 := hide ((N4.out.then (grown_trans (grown_alloc w7 _) hg)).box [Value.int .u32 0, .int .i64 0, .int .i64 0, .int .u32 0, .int .i64 0, .int .i64 0, .int .i64 0] 31)
  clear hg N4 HAN h0 h1 h2 h3 h4
  go_upto_region 6 with fail
  generalize w8.heap.size = B8 at *
  generalize World.alloc w8 _ = w9 at *
  generalize w7.heap.size = B7 at *
  have N6 := hide (N5.out.box [Value.int .i64 2, .int .i64 2, .int .i64 1] 36)
  clear N5
  go_upto_region 7 with fail
  generalize w9.heap.size = B9 at *
  generalize World.alloc w9 _ = w10 at *
  obtain ⟨s0, s1, s2⟩ := bx3n (N6.out.bx _ (List.mem_cons_self ..)).1
  have hz10 : 0 < w10.heap.size := HZ.out _ N6.out.gr
  have HO1' := hide (HO1.out w10 hz10)
  clear hz10 HO1
  go_wp2_with fail
  refine HO1'.out.mono ?_
  rintro e w11 ⟨b, p, rfl, hK⟩
  have K1 := hide (Nb.lk (N6.out.then (grown_alloc w10 _)) hK)
  clear hK HO1' N6 s0 s1 s2
  obtain ⟨s0, s1, s2⟩ := bx3n K1.out.b0
  have HO2' := hide (HO2.out w11 (HZ.out _ K1.out.gr))
  clear HO2
  go_upto_region 8 with fail
  go_wp2_with fail
  refine HO2'.out.mono ?_
  rintro e w12 ⟨c, q, rfl, hK⟩
  have T1 := hide (Lk.more2 K1.out hK)
  clear hK HO2' K1 s0 s1 s2
  obtain ⟨y0, y1, y2, y3, y4, y5, y6⟩ := bx7 T1.out.lk.b1
  obtain ⟨x0, x1, x2, x3, x4, x5, x6⟩ := bx7 T1.out.lk.b2
  go_upto_region 11 with fail
  clear y0 y1 y2 y3 y4 y5 y6 x0 x1 x2 x3 x4 x5 x6
  go_wp2_with fail
  refine (H1.out _ _ _ _ _ _ T1.out).mono ?_
  rintro e v0 ⟨rfl, hT⟩
  have T2 := hide (hT.box2 [Value.int .i64 5, .int .u32 0, .int .i64 0, .int .i64 0, .int .i64 1099511627776] [Value.int .u32 0, .int .i64 7, .int .i64 0, .int .u32 0, .int .i64 0, .int .i64 1099511627776, .int .i64 0] 28 31)
  clear hT T1 H1
  go_upto_region 12 with fail
  generalize v0.heap.size = C0 at *
  generalize World.alloc (World.alloc v0 _) _ = u0 at *
  go_wp2_with fail
  refine (H2.out _ _ _ _ _ _ T2.out).mono ?_
  rintro e v1 ⟨rfl, hT⟩
  have T3 := hide (hT.box2 [Value.int .i64 0, .int .u32 0, .int .i64 0, .int .i64 0, .int .i64 0] [Value.int .u32 0, .int .i64 7, .int .i64 172, .int .u32 0, .int .i64 0, .int .i64 0, .int .i64 0] 28 31)
  clear hT T2 H2
  go_upto_region 13 with fail
  generalize v1.heap.size = C1 at *
  generalize World.alloc (World.alloc v1 _) _ = u1 at *
  go_wp2_with fail
  refine (H3.out _ _ _ _ _ _ T3.out).mono ?_
  rintro e v2 ⟨rfl, hT⟩
  have T4 := hide (hT.box2 [Value.int .i64 0, .int .u32 0, .int .i64 0, .int .i64 0, .int .i64 0] [Value.int .u32 0, .int .i64 1, .int .i64 172, .int .u32 0, .int .i64 0, .int .i64 0, .int .i64 0] 28 31)
  clear hT T3 H3
  go_upto_region 14 with fail
  generalize v2.heap.size = C2 at *
  generalize World.alloc (World.alloc v2 _) _ = u2 at *
  obtain ⟨h0, h1, h2, h3, h4⟩ := bx5 (T4.out.lk.bx _ (List.mem_cons_of_mem _ (List.mem_cons_of_mem _ (List.mem_cons_of_mem _ (List.mem_cons_of_mem _ (List.mem_cons_of_mem _ (List.mem_cons_of_mem _ (List.mem_cons_of_mem _ (List.mem_cons_of_mem _ (List.mem_cons_of_mem _ (List.mem_cons_of_mem _ (List.mem_cons_of_mem _ (List.mem_cons_of_mem _ (List.mem_cons_of_mem _ (List.mem_cons_self ..))))))))))))))).1
  go_wp2_with fail
  refine (H4.out _ _ _ _ _ _ T4.out).mono ?_
  rintro e v3 ⟨rfl, hT⟩
  have T5 := hide (hT.box2 [Value.int .i64 0, .int .u32 0, .int .i64 0, .int .i64 0, .int .i64 0] [Value.int .u32 0, .int .i64 1, .int .i64 6, .int .u32 0, .int .i64 0, .int .i64 0, .int .i64 0] 28 31)
  clear hT T4 H4 h0 h1 h2 h3 h4
  go_upto_region 15 with fail
  generalize v3.heap.size = C3 at *
  generalize World.alloc (World.alloc v3 _) _ = u3 at *
  go_wp2_with fail
  refine (H5.out _ _ _ _ _ _ T5.out).mono ?_
  rintro e v4 ⟨rfl, hT⟩
  have T6 := hide (hT.box2 [Value.int .i64 5, .int .u32 0, .int .i64 0, .int .i64 0, .int .i64 1073741824] [Value.int .u32 0, .int .i64 7, .int .i64 0, .int .u32 0, .int .i64 0, .int .i64 1073741824, .int .i64 0] 28 31)
  clear hT T5 H5
  go_upto_region 16 with fail
  generalize v4.heap.size = C4 at *
  generalize World.alloc (World.alloc v4 _) _ = u4 at *
  go_wp2_with fail
  refine (H6.out _ _ _ _ _ _ T6.out).mono ?_
  rintro e v5 ⟨rfl, hT⟩
  have T7 := hide (hT.box2 [Value.int .i64 0, .int .u32 0, .int .i64 0, .int .i64 0, .int .i64 0] [Value.int .u32 0, .int .i64 7, .int .i64 2, .int .u32 0, .int .i64 0, .int .i64 0, .int .i64 0] 28 31)
  clear hT T6 H6
  go_upto_region 17 with fail
  generalize v5.heap.size = C5 at *
  generalize World.alloc (World.alloc v5 _) _ = u5 at *
  go_wp2_with fail
  refine (H7.out _ _ _ _ _ _ T7.out).mono ?_
  rintro e v6 ⟨rfl, hT⟩
  have T8 := hide (hT.box2 [Value.int .i64 0, .int .u32 0, .int .i64 0, .int .i64 0, .int .i64 0] [Value.int .u32 0, .int .i64 7, .int .i64 220, .int .u32 0, .int .i64 0, .int .i64 0, .int .i64 0] 28 31)
  clear hT T7 H7
  go_upto_region 18 with fail
  generalize v6.heap.size = C6 at *
  generalize World.alloc (World.alloc v6 _) _ = u6 at *
  go_wp2_with fail
  refine (H8.out _ _ _ _ _ _ T8.out).mono ?_
  rintro e v7 ⟨rfl, hT⟩
  have T9 := hide (hT.box2 [Value.int .i64 0, .int .u32 0, .int .i64 0, .int .i64 0, .int .i64 0] [Value.int .u32 0, .int .i64 0, .int .i64 0, .int .u32 0, .int .i64 0, .int .i64 0, .int .i64 0] 28 31)
  clear hT T8 H8
  go_upto_region 19 with fail
  generalize v7.heap.size = C7 at *
  generalize World.alloc (World.alloc v7 _) _ = u7 at *
  obtain ⟨d00, d01, d02, d03, d04, d05, d06⟩ := bx7 (T9.out.lk.bx _ (List.mem_cons_of_mem _ (List.mem_cons_of_mem _ (List.mem_cons_of_mem _ (List.mem_cons_of_mem _ (List.mem_cons_of_mem _ (List.mem_cons_of_mem _ (List.mem_cons_of_mem _ (List.mem_cons_of_mem _ (List.mem_cons_of_mem _ (List.mem_cons_of_mem _ (List.mem_cons_of_mem _ (List.mem_cons_of_mem _ (List.mem_cons_of_mem _ (List.mem_cons_of_mem _ (List.mem_cons_self ..)))))))))))))))).1
  obtain ⟨d10, d11, d12, d13, d14, d15, d16⟩ := bx7 (T9.out.lk.bx _ (List.mem_cons_of_mem _ (List.mem_cons_of_mem _ (List.mem_cons_of_mem _ (List.mem_cons_of_mem _ (List.mem_cons_of_mem _ (List.mem_cons_of_mem _ (List.mem_cons_of_mem _ (List.mem_cons_of_mem _ (List.mem_cons_of_mem _ (List.mem_cons_of_mem _ (List.mem_cons_of_mem _ (List.mem_cons_of_mem _ (List.mem_cons_self ..)))))))))))))).1
  obtain ⟨d20, d21, d22, d23, d24, d25, d26⟩ := bx7 (T9.out.lk.bx _ (List.mem_cons_of_mem _ (List.mem_cons_of_mem _ (List.mem_cons_of_mem _ (List.mem_cons_of_mem _ (List.mem_cons_of_mem _ (List.mem_cons_of_mem _ (List.mem_cons_of_mem _ (List.mem_cons_of_mem _ (List.mem_cons_of_mem _ (List.mem_cons_of_mem _ (List.mem_cons_self ..)))))))))))).1
  obtain ⟨d30, d31, d32, d33, d34, d35, d36⟩ := bx7 (T9.out.lk.bx _ (List.mem_cons_of_mem _ (List.mem_cons_of_mem _ (List.mem_cons_of_mem _ (List.mem_cons_of_mem _ (List.mem_cons_of_mem _ (List.mem_cons_of_mem _ (List.mem_cons_of_mem _ (List.mem_cons_of_mem _ (List.mem_cons_self ..)))))))))).1
  obtain ⟨d40, d41, d42, d43, d44, d45, d46⟩ := bx7 (T9.out.lk.bx _ (List.mem_cons_of_mem _ (List.mem_cons_of_mem _ (List.mem_cons_of_mem _ (List.mem_cons_of_mem _ (List.mem_cons_of_mem _ (List.mem_cons_of_mem _ (List.mem_cons_self ..)))))))).1
  obtain ⟨d50, d51, d52, d53, d54, d55, d56⟩ := bx7 (T9.out.lk.bx _ (List.mem_cons_of_mem _ (List.mem_cons_of_mem _ (List.mem_cons_of_mem _ (List.mem_cons_of_mem _ (List.mem_cons_self ..)))))).1
  obtain ⟨d60, d61, d62, d63, d64, d65, d66⟩ := bx7 (T9.out.lk.bx _ (List.mem_cons_of_mem _ (List.mem_cons_of_mem _ (List.mem_cons_self ..)))).1
  obtain ⟨d70, d71, d72, d73, d74, d75, d76⟩ := bx7 (T9.out.lk.bx _ (List.mem_cons_self ..)).1
  go_wp2_with fail
  refine (HW.out _ T9.out.lk.gr).mono ?_
  rintro e wz ⟨rfl, hg⟩
  have HG := hide (grown_trans T9.out.lk.gr hg)
  clear hg
  go_wp2
  go_ret
  exact ⟨rfl, HG.out⟩
end Go.Proofs.YtjfhilignbeboaaGreatDoor
