/- RepliesBack: the walk. -/
import Derived.Test.YtoflohjlmagjpaaDoorYg
import Derived.Test.YtoflohjlmagjpaaDoorLent
namespace Go.Proofs.YtoflohjlmagjpaaDoor
open Go.RowKit
attribute [local go_sem ↓] Go.wp_at_zero Go.wp_at_succ
/-- Inside a law: the reply's box, its bytes in a row. -/
structure BkS (w wr : World) (q : Ry) (g : Nat) : Prop where
  box : wr.heap[w.heap.size]? = some (.cells [Value.int .u32 q.t, .int .i64 q.k, .int .i64 q.e, .int .u32 q.i, .int .i64 q.s, .int .i64 q.u, .int .i64 q.c].toArray 26 (0, 0))
  row : wr.heap[g]? = some (.cells (q.out.map (Value.int .u8)).toArray 5 (0, 0))
  gr : w.grownBy wr none
theorem BkS.new {w wr wr' : World} {q : Ry} {g : Nat} (h : BkS w wr q g) (hg : wr.grownBy wr' none) : BkS w wr' q g :=
  ⟨box_new h.box hg, box_new h.row hg, grown_trans h.gr hg⟩
set_option maxRecDepth 20000 in
set_option maxHeartbeats 8000000 in
theorem back_any (q : Ry) (ho : q.Ok) (ao : Option Addr) (n cap : Nat) (ys : List Int) (w : World) (hT : Tab w) (hn : ys.length = n) (hat : At w ao ys) (hB : Byt ys) (hnil : ao = none → n = 0 ∧ cap = 0) (hb : n ≤ 140737488351232) :
    Calls Tryd.prog 6 #[ryV q, .slice ao n cap] w fun e w' => e = .returned (.bool true) ∧ w.grownBy w' none := by
  have S0 := hide (CkS.begin w q)
  have HX := hide (And.intro hn (And.intro hat (And.intro hB (And.intro hnil hb))))
  have HO := hide ho
  have HT := hide hT
  clear hn hat hB hnil ho hT hb
  have qa := awake_any _ (HT.out.new S0.out.gr)
  have Q10 := hide (fun wz (G : w.grownBy wz none) => copy_any ao n cap ys wz HX.out.1 (HX.out.2.1.kept G (fun _ _ e => by cases e)) HX.out.2.2.2.1 (by have := HX.out.2.2.2.2; omega))
  unfold ryV
  go_enter Tryd.func6, Tryd.ntmps6
  go_wp2_with fail
  generalize w.alloc (.cells #[.int .u32 q.t, .int .i64 q.k, .int .i64 q.e, .int .u32 q.i, .int .i64 q.s, .int .i64 q.u, .int .i64 q.c] 26) = w1 at *
  refine qa.mono ?_
  clear qa
  rintro e w2 ⟨rfl, hg⟩
  have S1 := hide (S0.out.then hg)
  clear hg S0
  obtain ⟨c0, c1, c2, c3, c4, c5, c6⟩ := box7 S1.out.box
  have qp := put_ry q HO.out w2 (HT.out.new S1.out.gr)
  unfold ryV at qp
  go_wp2_with fail
  refine qp.mono ?_
  clear qp c0 c1 c2 c3 c4 c5 c6
  rintro e w3 ⟨v, rfl, hp, hg⟩
  have S2 := hide (S1.out.then hg)
  have qc := check_any q HO.out w3 (HT.out.new S2.out.gr)
  unfold ryV at qc
  obtain ⟨c0, c1, c2, c3, c4, c5, c6⟩ := box7 S2.out.box
  rcases hp with ⟨hm, g, rfl, hgl, hrow⟩ | ⟨hm, rfl⟩
  · rw [show chk q = 0 from if_pos hm] at qc ⊢
    have S3 : Hid (BkS w w3 q g) := ⟨S2.out.box, hrow, S2.out.gr⟩
    have HM := hide hm
    have hzz := sz_le q.k q.e
    have HZ := hide hzz
    have HL := hide (out_length q)
    obtain ⟨L, hL⟩ : ∃ L, L = sz q.k q.e := ⟨_, rfl⟩
    rw [← hL] at hzz ⊢
    have HLz := hide hL
    obtain ⟨hz7, hz19⟩ := hzz
    have hi7 : (7 : Int) ≤ (L : Int) := by omega
    have hi19 : (L : Int) ≤ 19 := by omega
    clear hm hgl hrow hg S1 S2 hL hz7 hz19
    go_wp2_with fail
    refine qc.mono ?_
    clear qc c0 c1 c2 c3 c4 c5 c6
    rintro e w4 ⟨rfl, hg⟩
    have S4 := hide (S3.out.new hg)
    clear hg S3
    have qy := copy_any (some ⟨g, 0, none⟩) L L q.out w4 (by rw [HL.out, HLz.out]) (at_row S4.out.row) (fun e => by cases e) (by have := HZ.out; have := HLz.out; omega)
    go_wp2_with fail
    refine qy.mono ?_
    clear qy
    rintro e w5 ⟨v5, rfl, hown, hg⟩
    have S5 := hide (S4.out.new hg)
    obtain ⟨ao1, cap1, rfl, hl1, hc1, hm1, hat1, hn1, _⟩ := own_at hown
    have qg := get_any q.out (out_byt HO.out HM.out) ao1 L cap1 w5 (HT.out.new S5.out.gr) hl1 hat1 hn1
    rw [getY_out HO.out HM.out] at qg
    unfold ryV at qg
    dsimp only at qg
    clear hown hg hl1 hc1 hm1 hat1 hn1 S4
    go_wp2_with fail
    refine qg.mono ?_
    clear qg
    rintro e w6 ⟨rfl, hg⟩
    have g7 := World.grownBy_alloc w6 (.cells #[.int .u32 q.t, .int .i64 q.k, .int .i64 q.e, .int .u32 q.i, .int .i64 q.s, .int .i64 q.u, .int .i64 q.c] 26) none
    have S7 := hide ((S5.out.new hg).new g7)
    have D7 := hide (heap_alloc_new w6 (.cells [Value.int .u32 q.t, .int .i64 q.k, .int .i64 q.e, .int .u32 q.i, .int .i64 q.s, .int .i64 q.u, .int .i64 q.c].toArray 26))
    clear hg g7 S5
    obtain ⟨c0, c1, c2, c3, c4, c5, c6⟩ := box7 S7.out.box
    obtain ⟨d0, d1, d2, d3, d4, d5, d6⟩ := box7 D7.out
    by_cases he : q.e = 0
    · have he1 : (q.e == 0) = true := by simpa using he
      have he2 : (q.e != 0) = false := by simpa using he
      have he3 : decide (q.e = 0) = true := by simpa using he
      clear he
      have qy := Q10.out (w6.alloc (.cells #[.int .u32 q.t, .int .i64 q.k, .int .i64 q.e, .int .u32 q.i, .int .i64 q.s, .int .i64 q.u, .int .i64 q.c] 26)) S7.out.gr
      go_wp2_with fail
      refine qy.mono ?_
      clear qy
      rintro e u1 ⟨v1, rfl, hown, hg⟩
      have U1 := hide (grown_trans S7.out.gr hg)
      obtain ⟨ao2, cap2, rfl, hl2, hc2, hm2, hat2, hn2, _⟩ := own_at hown
      have qg := get_any ys HX.out.2.2.1 ao2 n cap2 u1 (HT.out.new U1.out) hl2 hat2 hn2
      clear hown hg hl2 hc2 hm2 hat2 hn2
      have hcs := getY_cases ys
      have HU : Hid ((getY ys).2 = 0 → (ryOf ys).Ok ∧ (ryOf ys).out = ys ∧ (ryOf ys).May) := fun h => by
        rcases getY_cases ys with ⟨_, _, c, d⟩ | ⟨_, b, _⟩
        · exact ⟨ryOf_ok HX.out.2.2.1, out_ryOf HX.out.2.2.1 c d, c⟩
        · rw [b] at h; exact absurd h (by decide)
      generalize getY ys = res at *
      obtain ⟨r, ec⟩ := res
      dsimp only at qg hcs HU
      rcases hcs with ⟨rfl, rfl, _, _⟩ | ⟨rfl, rfl, _⟩
      · have HM := hide (HU.out rfl)
        clear HU
        generalize ryOf ys = p at *
        obtain ⟨t, k, e, i, s, u, c⟩ := p
        unfold ryV at qg
        dsimp only at qg
        go_wp2_with fail
        refine qg.mono ?_
        clear qg
        rintro e u2 ⟨rfl, hg⟩
        have g3 := World.grownBy_alloc u2 (.cells #[.int .u32 t, .int .i64 k, .int .i64 e, .int .u32 i, .int .i64 s, .int .i64 u, .int .i64 c] 26) none
        have U3 := hide (grown_trans (grown_trans U1.out hg) g3)
        have D3 := hide (heap_alloc_new u2 (.cells [Value.int .u32 t, .int .i64 k, .int .i64 e, .int .u32 i, .int .i64 s, .int .i64 u, .int .i64 c].toArray 26))
        clear hg g3 U1
        obtain ⟨x0, x1, x2, x3, x4, x5, x6⟩ := box7 D3.out
        have qp := put_ry ⟨t, k, e, i, s, u, c⟩ HM.out.1 _ (HT.out.new U3.out)
        rw [show chk ⟨t, k, e, i, s, u, c⟩ = 0 from if_pos HM.out.2.2] at qp
        unfold ryV at qp
        dsimp only at qp
        go_wp2_with fail
        generalize u2.alloc (.cells #[.int .u32 t, .int .i64 k, .int .i64 e, .int .u32 i, .int .i64 s, .int .i64 u, .int .i64 c] 26) = u3 at *
        refine qp.mono ?_
        clear qp x0 x1 x2 x3 x4 x5 x6
        rintro e u4 ⟨v4, rfl, hp, hg⟩
        rcases hp with ⟨_, g1, rfl, hg1, row1⟩ | ⟨hx, _⟩
        case inr => exact absurd HM.out.2.2 hx
        have U4 := hide (grown_trans U3.out hg)
        have hol := out_length (Ry.mk t k e i s u c)
        dsimp only at hol
        rw [HM.out.2.1, HX.out.1] at hol
        rw [← hol]
        have a1 := at_row row1
        rw [HM.out.2.1] at a1
        have qs := same_eq ao (some ⟨g1, 0, none⟩) n cap n ys u4 HX.out.1 (HX.out.2.1.kept U4.out (fun _ _ e => by cases e)) a1 (by have := HX.out.2.2.2.2; omega)
        clear hol a1 hg hg1 row1
        go_wp2_with fail
        refine qs.mono ?_
        clear qs
        rintro e u5 ⟨rfl, hg⟩
        have U5 := hide (grown_trans U4.out hg)
        clear hg
        go_wp2
        go_ret
        exact ⟨rfl, U5.out⟩
      · unfold zRy ryV at qg
        dsimp only at qg
        clear HU
        go_wp2_with fail
        refine qg.mono ?_
        clear qg
        rintro e u2 ⟨rfl, hg⟩
        have U3 := hide (grown_trans (grown_trans U1.out hg) (World.grownBy_alloc u2 (.cells #[.int .u32 0, .int .i64 0, .int .i64 0, .int .u32 0, .int .i64 0, .int .i64 0, .int .i64 0] 26) none))
        obtain ⟨x0, x1, x2, x3, x4, x5, x6⟩ := box7 (heap_alloc_new u2 (.cells [Value.int .u32 0, .int .i64 0, .int .i64 0, .int .u32 0, .int .i64 0, .int .i64 0, .int .i64 0].toArray 26))
        clear hg
        go_wp2
        go_ret
        exact ⟨rfl, U3.out⟩
    · have he1 : (q.e == 0) = false := by simpa using he
      have he2 : (q.e != 0) = true := by simpa using he
      have he3 : decide (q.e = 0) = false := by simpa using he
      have hL7 : L = 7 := by rw [HLz.out]; exact sz_err he
      clear he hi7 hi19
      subst hL7
      have qy := Q10.out (w6.alloc (.cells #[.int .u32 q.t, .int .i64 q.k, .int .i64 q.e, .int .u32 q.i, .int .i64 q.s, .int .i64 q.u, .int .i64 q.c] 26)) S7.out.gr
      go_wp2_with fail
      refine qy.mono ?_
      clear qy
      rintro e u1 ⟨v1, rfl, hown, hg⟩
      have U1 := hide (grown_trans S7.out.gr hg)
      obtain ⟨ao2, cap2, rfl, hl2, hc2, hm2, hat2, hn2, _⟩ := own_at hown
      have qg := get_any ys HX.out.2.2.1 ao2 n cap2 u1 (HT.out.new U1.out) hl2 hat2 hn2
      clear hown hg hl2 hc2 hm2 hat2 hn2
      have hcs := getY_cases ys
      have HU : Hid ((getY ys).2 = 0 → (ryOf ys).Ok ∧ (ryOf ys).out = ys ∧ (ryOf ys).May) := fun h => by
        rcases getY_cases ys with ⟨_, _, c, d⟩ | ⟨_, b, _⟩
        · exact ⟨ryOf_ok HX.out.2.2.1, out_ryOf HX.out.2.2.1 c d, c⟩
        · rw [b] at h; exact absurd h (by decide)
      generalize getY ys = res at *
      obtain ⟨r, ec⟩ := res
      dsimp only at qg hcs HU
      rcases hcs with ⟨rfl, rfl, _, _⟩ | ⟨rfl, rfl, _⟩
      · have HM := hide (HU.out rfl)
        clear HU
        generalize ryOf ys = p at *
        obtain ⟨t, k, e, i, s, u, c⟩ := p
        unfold ryV at qg
        dsimp only at qg
        go_wp2_with fail
        refine qg.mono ?_
        clear qg
        rintro e u2 ⟨rfl, hg⟩
        have g3 := World.grownBy_alloc u2 (.cells #[.int .u32 t, .int .i64 k, .int .i64 e, .int .u32 i, .int .i64 s, .int .i64 u, .int .i64 c] 26) none
        have U3 := hide (grown_trans (grown_trans U1.out hg) g3)
        have D3 := hide (heap_alloc_new u2 (.cells [Value.int .u32 t, .int .i64 k, .int .i64 e, .int .u32 i, .int .i64 s, .int .i64 u, .int .i64 c].toArray 26))
        clear hg g3 U1
        obtain ⟨x0, x1, x2, x3, x4, x5, x6⟩ := box7 D3.out
        have qp := put_ry ⟨t, k, e, i, s, u, c⟩ HM.out.1 _ (HT.out.new U3.out)
        rw [show chk ⟨t, k, e, i, s, u, c⟩ = 0 from if_pos HM.out.2.2] at qp
        unfold ryV at qp
        dsimp only at qp
        go_wp2_with fail
        generalize u2.alloc (.cells #[.int .u32 t, .int .i64 k, .int .i64 e, .int .u32 i, .int .i64 s, .int .i64 u, .int .i64 c] 26) = u3 at *
        refine qp.mono ?_
        clear qp x0 x1 x2 x3 x4 x5 x6
        rintro e u4 ⟨v4, rfl, hp, hg⟩
        rcases hp with ⟨_, g1, rfl, hg1, row1⟩ | ⟨hx, _⟩
        case inr => exact absurd HM.out.2.2 hx
        have U4 := hide (grown_trans U3.out hg)
        have hol := out_length (Ry.mk t k e i s u c)
        dsimp only at hol
        rw [HM.out.2.1, HX.out.1] at hol
        rw [← hol]
        have a1 := at_row row1
        rw [HM.out.2.1] at a1
        have qs := same_eq ao (some ⟨g1, 0, none⟩) n cap n ys u4 HX.out.1 (HX.out.2.1.kept U4.out (fun _ _ e => by cases e)) a1 (by have := HX.out.2.2.2.2; omega)
        clear hol a1 hg hg1 row1
        go_wp2_with fail
        refine qs.mono ?_
        clear qs
        rintro e u5 ⟨rfl, hg⟩
        have U5 := hide (grown_trans U4.out hg)
        clear hg
        go_wp2
        go_ret
        exact ⟨rfl, U5.out⟩
      · unfold zRy ryV at qg
        dsimp only at qg
        clear HU
        go_wp2_with fail
        refine qg.mono ?_
        clear qg
        rintro e u2 ⟨rfl, hg⟩
        have U3 := hide (grown_trans (grown_trans U1.out hg) (World.grownBy_alloc u2 (.cells #[.int .u32 0, .int .i64 0, .int .i64 0, .int .u32 0, .int .i64 0, .int .i64 0, .int .i64 0] 26) none))
        obtain ⟨x0, x1, x2, x3, x4, x5, x6⟩ := box7 (heap_alloc_new u2 (.cells [Value.int .u32 0, .int .i64 0, .int .i64 0, .int .u32 0, .int .i64 0, .int .i64 0, .int .i64 0].toArray 26))
        clear hg
        go_wp2
        go_ret
        exact ⟨rfl, U3.out⟩
  · rw [show chk q = 210 from if_neg hm] at qc ⊢
    clear hm hg S1
    go_wp2_with fail
    refine qc.mono ?_
    clear qc c0 c1 c2 c3 c4 c5 c6
    rintro e w4 ⟨rfl, hg⟩
    have S4 := hide (S2.out.then hg)
    clear hg S2
    have qy := Q10.out w4 S4.out.gr
    go_wp2_with fail
    refine qy.mono ?_
    clear qy
    rintro e u1 ⟨v1, rfl, hown, hg⟩
    have U1 := hide (grown_trans S4.out.gr hg)
    obtain ⟨ao2, cap2, rfl, hl2, hc2, hm2, hat2, hn2, _⟩ := own_at hown
    have qg := get_any ys HX.out.2.2.1 ao2 n cap2 u1 (HT.out.new U1.out) hl2 hat2 hn2
    clear hown hg hl2 hc2 hm2 hat2 hn2
    have hcs := getY_cases ys
    have HU : Hid ((getY ys).2 = 0 → (ryOf ys).Ok ∧ (ryOf ys).out = ys ∧ (ryOf ys).May) := fun h => by
      rcases getY_cases ys with ⟨_, _, c, d⟩ | ⟨_, b, _⟩
      · exact ⟨ryOf_ok HX.out.2.2.1, out_ryOf HX.out.2.2.1 c d, c⟩
      · rw [b] at h; exact absurd h (by decide)
    generalize getY ys = res at *
    obtain ⟨r, ec⟩ := res
    dsimp only at qg hcs HU
    rcases hcs with ⟨rfl, rfl, _, _⟩ | ⟨rfl, rfl, _⟩
    · have HM := hide (HU.out rfl)
      clear HU
      generalize ryOf ys = p at *
      obtain ⟨t, k, e, i, s, u, c⟩ := p
      unfold ryV at qg
      dsimp only at qg
      go_wp2_with fail
      refine qg.mono ?_
      clear qg
      rintro e u2 ⟨rfl, hg⟩
      have g3 := World.grownBy_alloc u2 (.cells #[.int .u32 t, .int .i64 k, .int .i64 e, .int .u32 i, .int .i64 s, .int .i64 u, .int .i64 c] 26) none
      have U3 := hide (grown_trans (grown_trans U1.out hg) g3)
      have D3 := hide (heap_alloc_new u2 (.cells [Value.int .u32 t, .int .i64 k, .int .i64 e, .int .u32 i, .int .i64 s, .int .i64 u, .int .i64 c].toArray 26))
      clear hg g3 U1
      obtain ⟨x0, x1, x2, x3, x4, x5, x6⟩ := box7 D3.out
      have qp := put_ry ⟨t, k, e, i, s, u, c⟩ HM.out.1 _ (HT.out.new U3.out)
      rw [show chk ⟨t, k, e, i, s, u, c⟩ = 0 from if_pos HM.out.2.2] at qp
      unfold ryV at qp
      dsimp only at qp
      go_wp2_with fail
      generalize u2.alloc (.cells #[.int .u32 t, .int .i64 k, .int .i64 e, .int .u32 i, .int .i64 s, .int .i64 u, .int .i64 c] 26) = u3 at *
      refine qp.mono ?_
      clear qp x0 x1 x2 x3 x4 x5 x6
      rintro e u4 ⟨v4, rfl, hp, hg⟩
      rcases hp with ⟨_, g1, rfl, hg1, row1⟩ | ⟨hx, _⟩
      case inr => exact absurd HM.out.2.2 hx
      have U4 := hide (grown_trans U3.out hg)
      have hol := out_length (Ry.mk t k e i s u c)
      dsimp only at hol
      rw [HM.out.2.1, HX.out.1] at hol
      rw [← hol]
      have a1 := at_row row1
      rw [HM.out.2.1] at a1
      have qs := same_eq ao (some ⟨g1, 0, none⟩) n cap n ys u4 HX.out.1 (HX.out.2.1.kept U4.out (fun _ _ e => by cases e)) a1 (by have := HX.out.2.2.2.2; omega)
      clear hol a1 hg hg1 row1
      go_wp2_with fail
      refine qs.mono ?_
      clear qs
      rintro e u5 ⟨rfl, hg⟩
      have U5 := hide (grown_trans U4.out hg)
      clear hg
      go_wp2
      go_ret
      exact ⟨rfl, U5.out⟩
    · unfold zRy ryV at qg
      dsimp only at qg
      clear HU
      go_wp2_with fail
      refine qg.mono ?_
      clear qg
      rintro e u2 ⟨rfl, hg⟩
      have U3 := hide (grown_trans (grown_trans U1.out hg) (World.grownBy_alloc u2 (.cells #[.int .u32 0, .int .i64 0, .int .i64 0, .int .u32 0, .int .i64 0, .int .i64 0, .int .i64 0] 26) none))
      obtain ⟨x0, x1, x2, x3, x4, x5, x6⟩ := box7 (heap_alloc_new u2 (.cells [Value.int .u32 0, .int .i64 0, .int .i64 0, .int .u32 0, .int .i64 0, .int .i64 0, .int .i64 0].toArray 26))
      clear hg
      go_wp2
      go_ret
      exact ⟨rfl, U3.out⟩
end Go.Proofs.YtoflohjlmagjpaaDoor
