/- RepliesGets: the walk. -/
import Derived.Test.YtoflohjlmagjpaaDoorYt
import Derived.Test.YtoflohjlmagjpaaDoorLent
namespace Go.Proofs.YtoflohjlmagjpaaDoor
open Go.RowKit
attribute [local go_sem ↓] Go.wp_at_zero Go.wp_at_succ
theorem run_copy_in (w6 : World) (g n cap : Nat) (co : Option Addr) (m d : Nat) (cur : List Value) (zs : List Int) (hcur : w6.heap[g]? = some (.cells cur.toArray 5 (0, 0))) (hz : zs.length = Nat.min m n) (hzn : zs.length ≤ cur.length) (hat : At w6 co zs) :
    ∃ W, (Builtin.copy_ #[27, 27] 3 #[.slice (some ⟨g, 0, none⟩) n cap, .slice co m d]).run Tryd.prog w6 = .ok (goInt zs.length) W ∧ W.heap[g]? = some (.cells (splice cur 0 (zs.map (Value.int .u8))).toArray 5 (0, 0)) ∧ w6.grownBy W (some g) := by
  by_cases h0 : zs.length = 0
  · have hzs : zs = [] := List.eq_nil_of_length_eq_zero h0
    subst hzs
    exact ⟨w6, run_copy_none w6 27 27 3 5 _ co n cap m d Tryd.underlying27 Tryd.size5 hz.symm, by simpa [splice] using hcur, grown_refl _ _⟩
  · obtain ⟨a, rfl, _⟩ := hat 0 (zs[0]'(by omega)) (by simp)
    have hrun := run_copy_row (P := Tryd.prog) w6 27 27 3 5 g 0 n cap a m d cur.toArray 5 (zs.map (Value.int .u8)) Tryd.underlying27 Tryd.size5 hcur (by rw [List.length_map]; exact hz) ?_ (by rw [List.length_map]; simpa using hzn) ?_
    · rw [List.length_map] at hrun
      refine ⟨_, hrun, ?_, grown_setRow _ _ _⟩
      have := setRow_heap w6 g cur.toArray (cur.take 0 ++ (zs.map (Value.int .u8) ++ cur.drop (0 + zs.length))).toArray 5 (0, 0) hcur
      simpa [splice] using this
    · intro j v hv
      rw [List.getElem?_map] at hv
      cases hj : zs[j]? with
      | none => simp [hj] at hv
      | some y =>
        simp [hj] at hv
        obtain ⟨a', ea', hc'⟩ := hat j y hj
        cases ea'
        rw [← hv]; exact hc'
    · intro v hv
      rw [List.mem_map] at hv
      obtain ⟨y, _, rfl⟩ := hv
      rfl
theorem at_copied {W w6 : World} {g : Nat} {cur : List Value} {zs xs : List Int} (hrow : W.heap[g]? = some (.cells (splice cur 0 (zs.map (Value.int .u8))).toArray 5 (0, 0))) (hcur : w6.heap[g]? = some (.cells cur.toArray 5 (0, 0))) (hx : At w6 (some ⟨g, 0, none⟩) xs) (_hK : zs.length ≤ xs.length) : At W (some ⟨g, 0, none⟩) (zs ++ xs.drop zs.length) := by
  intro j u hu
  refine ⟨_, rfl, ?_⟩
  rw [Addr.add_lit, Nat.zero_add, cell_row hrow]
  have hs : splice cur 0 (zs.map (Value.int .u8)) = zs.map (Value.int .u8) ++ cur.drop zs.length := by simp [splice]
  rw [hs]
  by_cases hj : j < zs.length
  · rw [List.getElem?_append_left hj] at hu
    rw [List.getElem?_append_left (by simpa using hj), List.getElem?_map, hu]
    rfl
  · rw [List.getElem?_append_right (by omega), List.getElem?_drop] at hu
    rw [List.getElem?_append_right (by simp; omega), List.getElem?_drop, List.length_map]
    obtain ⟨a, ea, hc⟩ := hx _ u hu
    cases ea
    rw [Addr.add_lit, Nat.zero_add, cell_row hcur] at hc
    exact hc
theorem byt_over {xs ys : List Int} (hx : Byt xs) (hy : Byt ys) (k : Nat) : Byt (ys.take k ++ xs.drop k) := (hy.take k).append (hx.drop k)
set_option maxRecDepth 20000 in
set_option maxHeartbeats 16000000 in
theorem gets_any (ao : Option Addr) (n cap : Nat) (xs : List Int) (co : Option Addr) (m d : Nat) (ys : List Int) (w : World) (hT : Tab w) (hn : xs.length = n) (hat : At w ao xs) (hB : Byt xs) (hnil : ao = none → n = 0 ∧ cap = 0) (hb : n ≤ 140737488351232) (hm : ys.length = m) (hatc : At w co ys) (hBc : Byt ys) (hbm : m ≤ 140737488351232) :
    Calls Tryd.prog 4 #[.slice ao n cap, .slice co m d] w fun e w' => e = .returned (.bool true) ∧ w.grownBy w' none := by
  have HX := hide (And.intro hn (And.intro hat (And.intro hB (And.intro hnil hb))))
  have HC := hide (And.intro hm (And.intro hatc (And.intro hBc hbm)))
  have HT := hide hT
  clear hn hat hB hnil hb hm hatc hBc hT hbm
  have ql := lent_any ao n cap xs w HX.out.1 HX.out.2.1 HX.out.2.2.2.1 (by have := HX.out.2.2.2.2; omega)
  go_enter Tryd.func4, Tryd.ntmps4
  go_wp2_with fail
  refine ql.mono ?_
  clear ql
  rintro e w2 ⟨v, rfl, hl, hg⟩
  obtain ⟨g, cp, rfl, hc1, hc2, hgl, hgs, ha, cur, hblk, hcs⟩ := hl.all
  rw [HX.out.1] at hc1 ⊢
  have G2 := hide hg
  have HL := hide (And.intro hc1 (And.intro hc2 (And.intro ha (And.intro hgl (And.intro hblk hcs)))))
  clear hc1 hc2 hgl hgs ha hblk hg hl hcs
  have ha0 : At w2 (some ⟨g, 0, none⟩) xs := by
    have := HL.out.2.2.1.take n
    rw [List.take_append_of_le_length (by rw [HX.out.1]; exact Nat.le_refl _), List.take_of_length_le (by rw [HX.out.1]; exact Nat.le_refl _)] at this
    exact this
  have HA := hide ha0
  have qg := get_any xs HX.out.2.2.1 (some ⟨g, 0, none⟩) n cp w2 (HT.out.new G2.out) HX.out.1 ha0 (fun e => by cases e)
  have qd := fun w1 (h : w.grownBy w1 none) => rget_any xs HX.out.2.2.1 ao n cap w1 HX.out.1 (HX.out.2.1.kept h (fun _ _ e => by cases e)) HX.out.2.2.2.2
  clear ha0
  generalize getY xs = res at *
  obtain ⟨⟨t, k, e, i, s, u, c⟩, ec⟩ := res
  unfold ryV at qg qd
  dsimp only at qg qd
  go_wp2_with fail
  refine qg.mono ?_
  clear qg
  rintro r w3 ⟨rfl, hg⟩
  have g4 := World.grownBy_alloc w3 (.cells #[.int .u32 t, .int .i64 k, .int .i64 e, .int .u32 i, .int .i64 s, .int .i64 u, .int .i64 c] 26) none
  have G4 := hide (And.intro (grown_trans hg g4) (grown_trans G2.out (grown_trans hg g4)))
  have B4 := hide (heap_alloc_new w3 (.cells [Value.int .u32 t, .int .i64 k, .int .i64 e, .int .u32 i, .int .i64 s, .int .i64 u, .int .i64 c].toArray 26))
  have PLo : Hid (w.heap.size ≤ w3.heap.size) := (grown_trans G2.out hg).size
  clear hg g4
  have qd := qd _ G4.out.2
  go_wp2_with fail
  generalize w3.alloc (.cells #[.int .u32 t, .int .i64 k, .int .i64 e, .int .u32 i, .int .i64 s, .int .i64 u, .int .i64 c] 26) = w4 at *
  generalize w3.heap.size = P at *
  refine qd.mono ?_
  clear qd
  rintro r w5 ⟨rfl, hg⟩
  have g6 := World.grownBy_alloc w5 (.cells #[.int .u32 t, .int .i64 k, .int .i64 e, .int .u32 i, .int .i64 s, .int .i64 u, .int .i64 c] 26) none
  have G6 := hide (And.intro (grown_trans G4.out.1 (grown_trans hg g6)) (grown_trans G4.out.2 (grown_trans hg g6)))
  have B6 := hide (box_new B4.out (grown_trans hg g6))
  have D6 := hide (heap_alloc_new w5 (.cells [Value.int .u32 t, .int .i64 k, .int .i64 e, .int .u32 i, .int .i64 s, .int .i64 u, .int .i64 c].toArray 26))
  have RLo : Hid (w.heap.size ≤ w5.heap.size ∧ P < w5.heap.size) := ⟨(grown_trans G4.out.2 hg).size, row_lt (box_new B4.out hg)⟩
  clear hg g6 G4 B4
  have qk := kept_any g cp ao n cap xs (w5.alloc (.cells #[.int .u32 t, .int .i64 k, .int .i64 e, .int .u32 i, .int .i64 s, .int .i64 u, .int .i64 c] 26)) HX.out.1 HL.out.1 HL.out.2.1 (HL.out.2.2.1.kept G6.out.1 (fun _ _ e => by cases e)) (HX.out.2.1.kept G6.out.2 (fun _ _ e => by cases e)) (by have := HX.out.2.2.2.2; omega)
  obtain ⟨c0, c1, c2, c3, c4, c5, c6⟩ := box7 B6.out
  obtain ⟨x0, x1, x2, x3, x4, x5, x6⟩ := box7 D6.out
  go_wp2_with fail
  generalize w5.alloc (.cells #[.int .u32 t, .int .i64 k, .int .i64 e, .int .u32 i, .int .i64 s, .int .i64 u, .int .i64 c] 26) = w6 at *
  generalize w5.heap.size = R at *
  refine qk.mono ?_
  clear qk c0 c1 c2 c3 c4 c5 c6 x0 x1 x2 x3 x4 x5 x6
  rintro r w7 ⟨rfl, hg⟩
  have G7 := hide (grown_trans G6.out.2 hg)
  have hcur7 := box_new (box_new HL.out.2.2.2.2.1 G6.out.1) hg
  have hcur7 : w7.heap[g]? = some (.cells cur.toList.toArray 5 (0, 0)) := by rw [hcur7]
  have hx7 := HA.out.kept (grown_trans G6.out.1 hg) (fun _ _ e => by cases e)
  obtain ⟨K, hK⟩ : ∃ K, K = Nat.min m n := ⟨_, rfl⟩
  have hKle : K ≤ m ∧ K ≤ n := by subst hK; exact ⟨Nat.min_le_left _ _, Nat.min_le_right _ _⟩
  have hzl : (ys.take K).length = K := by rw [List.length_take, HC.out.1]; omega
  obtain ⟨W, hrun, hrow, hgW⟩ := run_copy_in w7 g n cp co m d cur.toList (ys.take K) hcur7 (by rw [hzl]; exact hK) (by rw [hzl]; have := HL.out.2.2.2.2.2; have := HL.out.1; simp; omega) ((HC.out.2.1.kept G7.out (fun _ _ e => by cases e)).take K)
  have hatW := at_copied hrow hcur7 hx7 (by rw [hzl, HX.out.1]; exact hKle.2)
  rw [hzl] at hatW
  have B7 := box_new B6.out hg
  have D7 := box_new D6.out hg
  have hPg : P ≠ g := fun e => by have h1 := B7; rw [e, hcur7] at h1; simp at h1
  have hRg : R ≠ g := fun e => by have h1 := D7; rw [e, hcur7] at h1; simp at h1
  have hPR : Hid (P ≠ R) := fun e => by have := RLo.out.2; omega
  have PG := hide hPg
  have BW := hide ((hgW.block _ (row_lt B7) (fun e => hPg (by simpa using e))).trans B7)
  have DW := hide ((hgW.block _ (row_lt D7) (fun e => hRg (by simpa using e))).trans D7)
  have GW : Hid (w.grownBy W none) := grown_then G7.out hgW (fun j e => by cases e; exact Or.inl HL.out.2.2.2.1)
  have VB := hide (byt_over HX.out.2.2.1 HC.out.2.2.1 K)
  have VL : Hid ((ys.take K ++ xs.drop K).length = n) := by unfold Hid; rw [List.length_append, hzl, List.length_drop, HX.out.1]; omega
  have VA := hide hatW
  clear hg G6 B6 D6 hcur7 hx7 hrow hgW hatW B7 D7 hPg hRg hKle hzl hK G7
  generalize ys.take K ++ xs.drop K = vs at *
  have qg := get_any vs VB.out (some ⟨g, 0, none⟩) n cp W (HT.out.new GW.out) VL.out VA.out (fun e => by cases e)
  have qd := fun w1 (h : At w1 (some ⟨g, 0, none⟩) vs) => rget_any vs VB.out (some ⟨g, 0, none⟩) n cp w1 VL.out h HX.out.2.2.2.2
  generalize getY vs = res at *
  obtain ⟨⟨pt, pk, pe, pi, ps, pu, pc⟩, pcc⟩ := res
  unfold ryV at qg qd
  dsimp only at qg qd
  go_wp2_with fail
  refine qg.mono ?_
  clear qg
  rintro r w8 ⟨rfl, hg⟩
  have B8 := hide (box_new BW.out hg)
  have D8 := hide (box_new DW.out hg)
  have V8 := hide (VA.out.kept hg (fun _ _ e => by cases e))
  have G8 := hide (grown_trans GW.out hg)
  clear hg BW DW VA GW hrun
  obtain ⟨u0, u1, u2, u3, u4, u5, u6⟩ := box7 B8.out
  have s0 := free_row B8.out 0
  have s1 := free_row B8.out 1
  have s2 := free_row B8.out 2
  have s3 := free_row B8.out 3
  have s4 := free_row B8.out 4
  have s5 := free_row B8.out 5
  have s6 := free_row B8.out 6
  obtain ⟨eb, eg⟩ := set7 B8.out (.int .u32 pt) (.int .i64 pk) (.int .i64 pe) (.int .u32 pi) (.int .i64 ps) (.int .i64 pu) (.int .i64 pc)
  have hPg : P ≠ g := PG.out
  have D9 := hide ((eg.block _ (row_lt D8.out) (fun e => hPR.out (by simpa using e.symm))).trans D8.out)
  have V9 := hide (V8.out.kept eg (fun a e1 e2 => by cases e1; exact hPg (by simpa using e2.symm)))
  have G9 := hide (grown_then G8.out eg (fun j e => by cases e; exact Or.inl PLo.out))
  have B9 := hide eb
  clear eb eg hPg
  have qd := qd _ V9.out
  go_wp2_with fail
  clear u0 u1 u2 u3 u4 u5 u6 s0 s1 s2 s3 s4 s5 s6 B8 D8 V8 G8
  generalize (((((((w8.setCell ⟨P, 0, none⟩ (.int .u32 pt)).setCell ⟨P, 1, none⟩ (.int .i64 pk)).setCell ⟨P, 2, none⟩ (.int .i64 pe)).setCell ⟨P, 3, none⟩ (.int .u32 pi)).setCell ⟨P, 4, none⟩ (.int .i64 ps)).setCell ⟨P, 5, none⟩ (.int .i64 pu)).setCell ⟨P, 6, none⟩ (.int .i64 pc)) = w9 at *
  refine qd.mono ?_
  clear qd
  rintro r wa ⟨rfl, hg⟩
  have BA := hide (box_new B9.out hg)
  have DA := hide (box_new D9.out hg)
  have GA := hide (grown_trans G9.out hg)
  clear hg B9 D9 V9 G9
  obtain ⟨u0, u1, u2, u3, u4, u5, u6⟩ := box7 DA.out
  have s0 := free_row DA.out 0
  have s1 := free_row DA.out 1
  have s2 := free_row DA.out 2
  have s3 := free_row DA.out 3
  have s4 := free_row DA.out 4
  have s5 := free_row DA.out 5
  have s6 := free_row DA.out 6
  obtain ⟨eb, eg⟩ := set7 DA.out (.int .u32 pt) (.int .i64 pk) (.int .i64 pe) (.int .u32 pi) (.int .i64 ps) (.int .i64 pu) (.int .i64 pc)
  have BB := hide ((eg.block _ (row_lt BA.out) (fun e => hPR.out (by simpa using e))).trans BA.out)
  have GB := hide (grown_then GA.out eg (fun j e => by cases e; exact Or.inl RLo.out.1))
  have DB := hide eb
  clear eb eg
  go_upto_region 9 with fail
  clear u0 u1 u2 u3 u4 u5 u6 s0 s1 s2 s3 s4 s5 s6 BA DA GA
  generalize (((((((wa.setCell ⟨R, 0, none⟩ (.int .u32 pt)).setCell ⟨R, 1, none⟩ (.int .i64 pk)).setCell ⟨R, 2, none⟩ (.int .i64 pe)).setCell ⟨R, 3, none⟩ (.int .u32 pi)).setCell ⟨R, 4, none⟩ (.int .i64 ps)).setCell ⟨R, 5, none⟩ (.int .i64 pu)).setCell ⟨R, 6, none⟩ (.int .i64 pc)) = wb at *
  obtain ⟨c0, c1, c2, c3, c4, c5, c6⟩ := box7 BB.out
  obtain ⟨x0, x1, x2, x3, x4, x5, x6⟩ := box7 DB.out
  go_wp2_with fail
  refine (awake_any wb (HT.out.new GB.out)).mono ?_
  rintro r wc ⟨rfl, hg⟩
  have GC := hide (grown_trans GB.out hg)
  clear hg
  go_wp2
  go_ret
  exact ⟨rfl, GC.out⟩
end Go.Proofs.YtoflohjlmagjpaaDoor
