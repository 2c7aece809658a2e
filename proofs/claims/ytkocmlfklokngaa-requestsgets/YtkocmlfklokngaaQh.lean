/- RequestsBack: the walk. -/
import Derived.Test.YtkocmlfklokngaaQg
import Derived.Test.YtkocmlfklokngaaLent
namespace Go.Proofs.Ytkocmlfklokngaa
open Go.RowKit
attribute [local go_sem ↓] Go.wp_at_zero Go.wp_at_succ
set_option maxHeartbeats 400000 in
theorem pick_any (x : Int) (n : Nat) (w : World) (hn : 1 ≤ n) (hn2 : n ≤ 65536) :
    Calls Try.prog 20 #[.int .i64 x, .int .i64 (n : Int)] w fun e w' => ∃ k : Nat, e = .returned (.int .i64 (k : Int)) ∧ k < n ∧ w' = w := by
  have h1 : (1 : Int) ≤ (n : Int) := by omega
  have h2 : ((n : Int) == 0) = false := by simp; omega
  have hb := Int.tmod_lt_of_pos x (show (0 : Int) < (n : Int) by omega)
  have hb2 := Int.lt_tmod_of_pos x (show (0 : Int) < (n : Int) by omega)
  by_cases hs : x.tmod (n : Int) < 0
  · obtain ⟨k, hk⟩ : ∃ k : Nat, x.tmod (n : Int) + (n : Int) = (k : Int) := ⟨(x.tmod (n : Int) + (n : Int)).toNat, by omega⟩
    have hw : IntKind.i64.wrap (x.tmod (n : Int) + (n : Int)) = (k : Int) := by rw [IntKind.wrap_i64]; omega
    have HK : Hid (k < n) := by unfold Hid; omega
    clear hk
    go_enter Try.func20, Try.ntmps20
    go_wp2
    go_ret
    exact ⟨k, rfl, HK.out, rfl⟩
  · have hs2 : 0 ≤ x.tmod (n : Int) := by omega
    have HK : Hid ((x.tmod (n : Int)).toNat < n ∧ (((x.tmod (n : Int)).toNat : Nat) : Int) = x.tmod (n : Int)) := by unfold Hid; omega
    go_enter Try.func20, Try.ntmps20
    go_wp2
    go_ret
    exact ⟨(x.tmod (n : Int)).toNat, by rw [HK.out.2]; rfl, HK.out.1, rfl⟩
/-- Inside a law: the request's box, its bytes in a row. -/
structure BkS (w wr : World) (q : Rq) (g : Nat) : Prop where
  box : wr.heap[w.heap.size]? = some (.cells [Value.int .i64 q.k, .int .u32 q.t, .int .u32 q.i, .int .i64 q.s, .int .i64 q.u].toArray 25 (0, 0))
  row : wr.heap[g]? = some (.cells (q.out.map (Value.int .u8)).toArray 5 (0, 0))
  gr : w.grownBy wr none
theorem BkS.new {w wr wr' : World} {q : Rq} {g : Nat} (h : BkS w wr q g) (hg : wr.grownBy wr' none) : BkS w wr' q g :=
  ⟨(hg.block _ (row_lt h.box) (by simp)).trans h.box, (hg.block _ (row_lt h.row) (by simp)).trans h.row, grown_trans h.gr hg⟩
theorem box_new {w w' : World} {g : Nat} {o : Obj} (h : w.heap[g]? = some o) (hg : w.grownBy w' none) : w'.heap[g]? = some o := (hg.block _ (row_lt h) (by simp)).trans h
theorem own_one (w : World) (x : Int) : (w.alloc (.cells #[.int .u8 x] 5)).ownsRow w.heap.size 5 1 (.slice (some ⟨w.heap.size, 0, none⟩) 1 1) 1 ([x].map (Value.int .u8)) :=
  ⟨rfl, .inr ⟨w.heap.size, 1, #[.int .u8 x], rfl, Nat.le_refl _, heap_alloc_new w _, Nat.le_refl _, by unfold maxLen; omega, rfl, rfl⟩⟩
set_option maxRecDepth 20000 in
set_option maxHeartbeats 8000000 in
theorem back_any (q : Rq) (ho : q.Ok) (cut : Int) (ao : Option Addr) (n cap : Nat) (ys : List Int) (w : World) (hn : ys.length = n) (hat : At w ao ys) (hB : Byt ys) (hnil : ao = none → n = 0 ∧ cap = 0) (hb : n ≤ 140737488351232) :
    Calls Try.prog 5 #[rqV q, .int .i64 cut, .slice ao n cap] w fun e w' => e = .returned (.bool true) ∧ w.grownBy w' none := by
  have S0 := hide (CkS.begin w q)
  have HX := hide (And.intro hn (And.intro hat (And.intro hB (And.intro hnil hb))))
  have HO := hide ho
  clear hn hat hB hnil ho
  have qa := awake_any (w.alloc (.cells #[.int .i64 q.k, .int .u32 q.t, .int .u32 q.i, .int .i64 q.s, .int .i64 q.u] 25))
  unfold rqV
  go_enter Try.func5, Try.ntmps5
  go_wp2_with fail
  generalize w.alloc (.cells #[.int .i64 q.k, .int .u32 q.t, .int .u32 q.i, .int .i64 q.s, .int .i64 q.u] 25) = w1 at *
  refine qa.mono ?_
  clear qa
  rintro e w2 ⟨rfl, hg⟩
  have S1 := hide (S0.out.then hg)
  clear hg S0
  obtain ⟨c0, c1, c2, c3, c4⟩ := box5 S1.out.box
  have qp := put_req q HO.out w2
  unfold rqV at qp
  go_wp2_with fail
  refine qp.mono ?_
  clear qp c0 c1 c2 c3 c4
  rintro e w3 ⟨v, rfl, hp, hg⟩
  have S2 := hide (S1.out.then hg)
  have qc := check_any q HO.out w3
  unfold rqV at qc
  obtain ⟨c0, c1, c2, c3, c4⟩ := box5 S2.out.box
  rcases hp with ⟨hm, g, rfl, hgl, hrow⟩ | ⟨hm, rfl⟩
  · rw [show chk q = 0 from if_pos hm] at qc ⊢
    have S3 : Hid (BkS w w3 q g) := ⟨S2.out.box, hrow, S2.out.gr⟩
    have HM := hide hm
    have hzz := sz_le q.k
    have HZ := hide hzz
    have hol := out_length q
    have HL := hide hol
    obtain ⟨L, hL⟩ : ∃ L, L = sz q.k := ⟨_, rfl⟩
    rw [← hL] at hzz ⊢
    have HLz := hide hL
    obtain ⟨hz5, hz15⟩ := hzz
    have hi5 : (5 : Int) ≤ (L : Int) := by omega
    have hi15 : (L : Int) ≤ 15 := by omega
    clear hm hgl hrow hg S1 S2 hL hz5 hz15 hol
    go_wp2_with fail
    refine qc.mono ?_
    clear qc c0 c1 c2 c3 c4
    rintro e w4 ⟨rfl, hg⟩
    have S4 := hide (S3.out.new hg)
    clear hg S3
    have qg := get_any q.out (out_byt HM.out) (some ⟨g, 0, none⟩) L L w4 (by rw [HL.out, HLz.out]) (at_row S4.out.row) (fun e => by cases e)
    rw [getQ_out HO.out HM.out] at qg
    unfold rqV at qg
    dsimp only at qg
    go_wp2_with fail
    refine qg.mono ?_
    clear qg
    rintro e w5 ⟨rfl, hg⟩
    have S5 := S4.out.new hg
    have g6 := World.grownBy_alloc w5 (.cells #[.int .i64 q.k, .int .u32 q.t, .int .u32 q.i, .int .i64 q.s, .int .i64 q.u] 25) none
    have S6 := hide (S5.new g6)
    have B6 := hide (heap_alloc_new w5 (.cells [Value.int .i64 q.k, .int .u32 q.t, .int .u32 q.i, .int .i64 q.s, .int .i64 q.u].toArray 25))
    clear hg S5 g6 S4
    have qk := fun w1 => pick_any cut L w1 (by have := HZ.out; have := HLz.out; omega) (by have := HZ.out; have := HLz.out; omega)
    go_wp2_with fail
    generalize w5.alloc (.cells #[.int .i64 q.k, .int .u32 q.t, .int .u32 q.i, .int .i64 q.s, .int .i64 q.u] 25) = w6 at *
    generalize w5.heap.size = P at *
    refine (qk w6).mono ?_
    clear qk
    rintro e wx ⟨j, rfl, hj, hw⟩
    obtain rfl := hw.symm
    clear hw
    have HJ := hide hj
    have hsl := slice_to (some ⟨g, 0, none⟩) L L j (by omega)
    have qg := get_any (q.out.take j) ((out_byt HM.out).take j) (some ⟨g, 0, none⟩) j L w6 (by rw [List.length_take, HL.out, ← HLz.out]; omega) ((at_row S6.out.row).take j) (fun e => by cases e)
    rw [getQ_less q j (by rw [← HLz.out]; exact hj)] at qg
    unfold zRq rqV at qg
    dsimp only at qg
    clear hj
    go_wp2_with fail
    refine qg.mono ?_
    clear qg hsl
    rintro e w7 ⟨rfl, hg⟩
    have S7 := S6.out.new hg
    have B7 := box_new B6.out hg
    have g8 := World.grownBy_alloc w7 (.cells #[.int .i64 0, .int .u32 0, .int .u32 0, .int .i64 0, .int .i64 0] 25) none
    have S8 := hide (S7.new g8)
    have B8 := hide (box_new B7 g8)
    have D8 := hide (heap_alloc_new w7 (.cells [Value.int .i64 0, .int .u32 0, .int .u32 0, .int .i64 0, .int .i64 0].toArray 25))
    clear hg S7 B7 g8 S6 B6
    obtain ⟨c0, c1, c2, c3, c4⟩ := box5 S8.out.box
    obtain ⟨d0, d1, d2, d3, d4⟩ := box5 B8.out
    obtain ⟨f0, f1, f2, f3, f4⟩ := box5 D8.out
    have qc := copy_any (some ⟨g, 0, none⟩) L L q.out (w7.alloc (.cells #[.int .i64 0, .int .u32 0, .int .u32 0, .int .i64 0, .int .i64 0] 25)) (by rw [HL.out, HLz.out]) (at_row S8.out.row) (fun e => by cases e) (by have := HZ.out; have := HLz.out; omega)
    go_wp2_with fail
    generalize w7.alloc (.cells #[.int .i64 0, .int .u32 0, .int .u32 0, .int .i64 0, .int .i64 0] 25) = w8 at *
    refine qc.mono ?_
    clear qc c0 c1 c2 c3 c4 d0 d1 d2 d3 d4 f0 f1 f2 f3 f4
    rintro e w9 ⟨v9, rfl, hown, hg⟩
    have S9 := hide (S8.out.new hg)
    have O9 := hide hown
    have G8s := S8.out.gr.size
    have S98 := hide hg.size
    clear hown hg S8 B8 D8
    have H8 := hide G8s
    go_wp2_with (at_builtin; refine wpList_append_at rfl (.tmp 79) (.tmp 80) rfl w9.heap.size (.slice (some ⟨w9.heap.size, 0, none⟩) 1 1) 1 ([0].map (Value.int .u8)) rfl (own_one w9 0) ao n cap ys rfl HX.out.1 ?_ HX.out.2.2.2.1 (by have := HX.out.2.2.2.2; omega) (by simp) ?_)
    · exact (HX.out.2.1.kept (grown_trans S9.out.gr (World.grownBy_alloc w9 _ none)) (fun _ _ e => by cases e))
    · intro v1 w10 hown hg
      have hown : w10.ownsRow w9.heap.size 5 1 v1 (1 + n) (([0] ++ ys).map (Value.int .u8)) := hown
      obtain ⟨ao1, cap1, rfl, hl1, hc1, hm1, hat1, hn1, _⟩ := own_at hown
      have hne : v9.ownBlock ≠ some w9.heap.size := fun e => by have := (O9.out.lt _ e).2; omega
      have O10 := hide ((O9.out.alloc (.cells #[.int .u8 0] 5)).kept hg (Or.inr hne))
      have G10 := hide (grown_then (grown_trans S9.out.gr (World.grownBy_alloc w9 (.cells #[.int .u8 0] 5) none)) hg (fun k e => by cases e; exact Or.inl S9.out.gr.size))
      have HA := hide (And.intro hl1 (And.intro hat1 hn1))
      have HS := hide (And.intro hg.size O9.out.lt)
      have HSz : Hid (w8.heap.size ≤ w10.heap.size) := Nat.le_trans S98.out (by have := hg.size; rw [World.size_alloc] at this; omega)
      clear hown hl1 hc1 hm1 hat1 hn1 hne hg
      go_wp2_with (at_builtin; refine wpList_append_at rfl (.tmp 78) (.tmp 81) rfl w8.heap.size v9 L (q.out.map (Value.int .u8)) rfl O10.out ao1 (1 + n) cap1 ([0] ++ ys) rfl HA.out.1 HA.out.2.1 HA.out.2.2 (by have := HX.out.2.2.2.2; have := HZ.out; have := HLz.out; omega) HSz.out ?_)
      intro v2 w11 hown hg
      have hown : w11.ownsRow w8.heap.size 5 1 v2 (L + (1 + n)) ((q.out ++ ([0] ++ ys)).map (Value.int .u8)) := by rw [List.map_append]; exact hown
      obtain ⟨ao2, cap2, rfl, hl2, hc2, hm2, hat2, hn2, _⟩ := own_at hown
      have G11 := hide (grown_then G10.out hg (fun k e => Or.inl (Nat.le_trans H8.out (O10.out.lt k e).1)))
      have qg := get_any (q.out ++ ([0] ++ ys)) ((out_byt HM.out).append (byt_cons (by decide) HX.out.2.2.1)) ao2 (L + (1 + n)) cap2 w11 hl2 hat2 hn2
      rw [show q.out ++ ([0] ++ ys) = q.out ++ 0 :: ys from rfl, getQ_more] at qg
      unfold zRq rqV at qg
      dsimp only at qg
      clear hown hl2 hc2 hm2 hat2 hn2 hg
      generalize L + (1 + n) = M at *
      go_wp2_with fail
      refine qg.mono ?_
      clear qg
      rintro e w12 ⟨rfl, hg⟩
      have G13 := hide (grown_trans (grown_trans G11.out hg) (World.grownBy_alloc w12 (.cells #[.int .i64 0, .int .u32 0, .int .u32 0, .int .i64 0, .int .i64 0] 25) none))
      obtain ⟨c0, c1, c2, c3, c4⟩ := box5 (heap_alloc_new w12 (.cells [Value.int .i64 0, .int .u32 0, .int .u32 0, .int .i64 0, .int .i64 0].toArray 25))
      clear hg
      go_wp2
      go_ret
      exact ⟨rfl, G13.out⟩
  · rw [show chk q = 200 from if_neg hm] at qc ⊢
    clear hm hg S1
    go_wp2_with fail
    refine qc.mono ?_
    clear qc c0 c1 c2 c3 c4
    rintro e w4 ⟨rfl, hg⟩
    have S4 := hide (S2.out.then hg)
    clear hg S2
    go_wp2
    go_ret
    exact ⟨rfl, S4.out.gr⟩
end Go.Proofs.Ytkocmlfklokngaa
