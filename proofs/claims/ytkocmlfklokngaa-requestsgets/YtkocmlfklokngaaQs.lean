/- RequestsGets: the walk. -/
import Derived.Test.YtkocmlfklokngaaQo
import Derived.Test.YtkocmlfklokngaaQh
namespace Go.Proofs.Ytkocmlfklokngaa
open Go.RowKit
attribute [local go_sem ↓] Go.wp_at_zero Go.wp_at_succ
set_option maxRecDepth 20000 in
set_option maxHeartbeats 8000000 in
theorem gets_any (ao : Option Addr) (n cap : Nat) (xs : List Int) (w : World) (hn : xs.length = n) (hat : At w ao xs) (hB : Byt xs) (hnil : ao = none → n = 0 ∧ cap = 0) (hc : n ≤ cap) (hb : n ≤ 140737488351232) :
    Calls Try.prog 4 #[.slice ao n cap] w fun e w' => e = .returned (.bool true) ∧ w.grownBy w' none := by
  have HX := hide (And.intro hn (And.intro hat (And.intro hB (And.intro hnil (And.intro hc hb)))))
  clear hn hat hB hnil hc hb
  go_enter Try.func4, Try.ntmps4
  go_wp2_with fail
  refine (awake_any w).mono ?_
  rintro e w1 ⟨rfl, hg⟩
  have G1 := hide hg
  clear hg
  have ql := lent_any ao n cap xs w1 HX.out.1 (HX.out.2.1.kept G1.out (fun _ _ e => by cases e)) HX.out.2.2.2.1 (by have := HX.out.2.2.2.2.2; omega)
  go_wp2_with fail
  refine ql.mono ?_
  clear ql
  rintro e w2 ⟨v, rfl, hl, hg⟩
  obtain ⟨g, cp, rfl, hc1, hc2, hgl, hgs, ha, hblk⟩ := hl.all
  rw [HX.out.1] at hc1 ⊢
  have G2 := hide (grown_trans G1.out hg)
  have HL := hide (And.intro hc1 (And.intro hc2 (And.intro ha hblk)))
  clear hc1 hc2 hgl hgs ha hblk hg hl G1
  have ha0 : At w2 (some ⟨g, 0, none⟩) xs := by
    have := HL.out.2.2.1.take n
    rw [List.take_append_of_le_length (by rw [HX.out.1]; exact Nat.le_refl _), List.take_of_length_le (by rw [HX.out.1]; exact Nat.le_refl _)] at this
    exact this
  have qg := get_any xs HX.out.2.2.1 (some ⟨g, 0, none⟩) n cp w2 HX.out.1 ha0 (fun e => by cases e)
  have qd := fun w1 (h : w.grownBy w1 none) => rget_any xs HX.out.2.2.1 ao n cap w1 HX.out.1 (HX.out.2.1.kept h (fun _ _ e => by cases e)) HX.out.2.2.2.1 HX.out.2.2.2.2.1 HX.out.2.2.2.2.2
  clear ha0
  generalize getQ xs = res at *
  obtain ⟨⟨k, t, i, s, u⟩, ec⟩ := res
  unfold rqV at qg qd
  dsimp only at qg qd
  go_wp2_with fail
  refine qg.mono ?_
  clear qg
  rintro e w3 ⟨rfl, hg⟩
  have g4 := World.grownBy_alloc w3 (.cells #[.int .i64 k, .int .u32 t, .int .u32 i, .int .i64 s, .int .i64 u] 25) none
  have G4 := hide (grown_trans (grown_trans G2.out hg) g4)
  have B4 := hide (heap_alloc_new w3 (.cells [Value.int .i64 k, .int .u32 t, .int .u32 i, .int .i64 s, .int .i64 u].toArray 25))
  have L4 := hide (HL.out.2.2.1.kept (grown_trans hg g4) (fun _ _ e => by cases e))
  have HC := hide (And.intro HL.out.1 HL.out.2.1)
  clear hg g4 G2 HL
  have qd := qd _ G4.out
  go_wp2_with fail
  generalize w3.alloc (.cells #[.int .i64 k, .int .u32 t, .int .u32 i, .int .i64 s, .int .i64 u] 25) = w4 at *
  generalize w3.heap.size = P at *
  refine qd.mono ?_
  clear qd
  rintro e w5 ⟨rfl, hg⟩
  have g6 := World.grownBy_alloc w5 (.cells #[.int .i64 k, .int .u32 t, .int .u32 i, .int .i64 s, .int .i64 u] 25) none
  have G6 := hide (grown_trans (grown_trans G4.out hg) g6)
  have B6 := hide (box_new B4.out (grown_trans hg g6))
  have D6 := hide (heap_alloc_new w5 (.cells [Value.int .i64 k, .int .u32 t, .int .u32 i, .int .i64 s, .int .i64 u].toArray 25))
  have L6 := hide (L4.out.kept (grown_trans hg g6) (fun _ _ e => by cases e))
  clear hg g6 G4 B4 L4
  have qk := kept_any g cp ao n cap xs (w5.alloc (.cells #[.int .i64 k, .int .u32 t, .int .u32 i, .int .i64 s, .int .i64 u] 25)) HX.out.1 HC.out.1 HC.out.2 L6.out (HX.out.2.1.kept G6.out (fun _ _ e => by cases e)) (by have := HX.out.2.2.2.2.2; omega)
  go_wp2_with fail
  generalize w5.alloc (.cells #[.int .i64 k, .int .u32 t, .int .u32 i, .int .i64 s, .int .i64 u] 25) = w6 at *
  generalize w5.heap.size = R at *
  refine qk.mono ?_
  clear qk
  rintro e w7 ⟨rfl, hg⟩
  have G7 := hide (grown_trans G6.out hg)
  obtain ⟨c0, c1, c2, c3, c4⟩ := box5 (box_new B6.out hg)
  obtain ⟨d0, d1, d2, d3, d4⟩ := box5 (box_new D6.out hg)
  clear hg
  go_wp2
  go_ret
  exact ⟨rfl, G7.out⟩
end Go.Proofs.Ytkocmlfklokngaa
