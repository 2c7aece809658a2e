/- The contracts of the document's own Size and Put. -/
import Derived.Test.YtoeehajdmdmemaaDoorFg
import Derived.Test.YtoeehajdmdmemaaDoorRef
import Derived.Test.YtoeehajdmdmemaaDoorRefNum
import Derived.Test.YtoeehajdmdmemaaDoorCRef
namespace Go.Proofs.YtoeehajdmdmemaaDoor
open Go.RowKit
attribute [local go_sem ↓] Go.wp_at_zero Go.wp_at_succ

theorem rsum_any (ao : Option Addr) (n c : Nat) (xs : List Int) (w : World) (hn : xs.length = n) (hx : Byt xs) (hat : At w ao xs) (hm : n ≤ 4611686018427387904) :
    Calls Tryd.prog 39 #[.slice ao n c] w fun e w' => e = .returned (.int .u32 (sumI xs)) ∧ w' = w :=
  Cr.rsum_any ao n c (nats xs) w (by rw [nats_length, hn]) (nats_lt hx) (hat.nats hx) hm

set_option maxHeartbeats 400000 in
theorem rsize_any (n : Int) (w : World) (_h0 : -9223372036854775808 ≤ n) (_h1 : n ≤ 9223372036854775807) : Calls Tryd.prog 17 #[.int .i64 n] w fun e w' => e = .returned (.int .i64 (sizeF n)) ∧ w' = w := by
  by_cases h : n < 0
  · have e : sizeF n = 0 := by unfold sizeF; rw [if_pos (Or.inl h)]
    rw [e]
    go_enter Tryd.func17, Tryd.ntmps17
    go_wp2
    go_ret
    exact ⟨rfl, rfl⟩
  · by_cases h2 : 32 < n
    · have e : sizeF n = 0 := by unfold sizeF; rw [if_pos (Or.inr h2)]
      rw [e]
      go_enter Tryd.func17, Tryd.ntmps17
      go_wp2
      go_ret
      exact ⟨rfl, rfl⟩
    · have e : sizeF n = 22 + n := by unfold sizeF; rw [if_neg (by omega)]
      rw [e]
      go_enter Tryd.func17, Tryd.ntmps17
      go_wp2
      go_ret
      exact ⟨by go_num, rfl⟩

set_option maxHeartbeats 1000000 in
theorem rput_long (e s : Int) (ao : Option Addr) (n cap : Nat) (w : World) (hn : 32 < n) (hm : n ≤ 4611686018427387904) :
    Calls Tryd.prog 12 #[frV e s (.slice ao n cap)] w fun r w' => r = .returned (.tuple #[.slice none 0 0, .int .i64 3]) ∧ w.grownBy w' none := by
  unfold frV
  go_enter Tryd.func12, Tryd.ntmps12
  go_wp2
  go_ret2
  exact ⟨rfl, World.grownBy_alloc w _ none⟩

/-- Inside the document's Put: the frame in its box, the bytes behind it. -/
structure RpS (w wr : World) (B : Nat) (E S : Int) (v vb : Value) (bs : List Int) : Prop where
  box : wr.heap[B]? = some (.cells [Value.int .u64 E, .int .u64 S, v].toArray 25 (0, 0))
  own : wr.ownsRow (B + 1) 5 1 vb bs.length (bs.map (Value.int .u8))
  gr : w.grownBy wr none
  lo : w.heap.size ≤ B
theorem RpS.grown {w wr wr' : World} {B : Nat} {E S : Int} {v vb : Value} {bs : List Int} (h : RpS w wr B E S v vb bs) (hg : wr.grownBy wr' none) : RpS w wr' B E S v vb bs :=
  ⟨(hg.block B (row_lt h.box) (by simp)).trans h.box, own_grown h.own hg, grown_trans h.gr hg, h.lo⟩
theorem RpS.next {w wr wr' : World} {B : Nat} {E S : Int} {v vb vb' : Value} {bs ys : List Int} {m : Nat} (h : RpS w wr B E S v vb bs) (hm : ys.length = m) (ho : wr'.ownsRow (B + 1) 5 1 vb' (bs.length + m) (bs.map (Value.int .u8) ++ ys.map (Value.int .u8))) (hg : wr.grownBy wr' vb.ownBlock) : RpS w wr' B E S v vb' (bs ++ ys) :=
  ⟨(hg.block B (row_lt h.box) (fun e => by have := h.own.lt B e.symm; omega)).trans h.box, by rw [List.length_append, hm, List.map_append]; exact ho,
    grown_then h.gr hg (fun j e => Or.inl (by have := (h.own.lt j e).1; have := h.lo; omega)), h.lo⟩
theorem RpS.start {w : World} {E S : Int} {v : Value} : RpS w (w.alloc (.cells #[.int .u64 E, .int .u64 S, v] 25)) w.heap.size E S v (.slice none 0 0) [] :=
  ⟨heap_alloc_new w _, World.ownsRow_nil _ _ _ _, World.grownBy_alloc w _ none, Nat.le_refl _⟩

set_option maxHeartbeats 2000000 in
theorem rput_any (f : Fr) (hf : f.Ok) (hl : f.b.length ≤ 32) (ao : Option Addr) (n cap : Nat) (w : World) (hn : f.b.length = n) (hat : At w ao f.b) (hnil : ao = none → n = 0 ∧ cap = 0) :
    Calls Tryd.prog 12 #[frV f.e f.s (.slice ao n cap)] w fun r w' => ∃ v, r = .returned (.tuple #[v, .int .i64 0]) ∧ w'.ownsRow w.heap.size 5 1 v (22 + n) (f.out.map (Value.int .u8)) ∧ w.grownBy w' none := by
  unfold frV
  have HF := hide (And.intro hf (And.intro hn (And.intro hat hnil)))
  have hn32 : n ≤ 32 := by omega
  clear hf hl hat hn hnil
  have P0 : Hid (RpS w (w.alloc (.cells #[.int .u64 f.e, .int .u64 f.s, .slice ao n cap] 25)) w.heap.size f.e f.s (.slice ao n cap) (.slice none 0 0) []) := RpS.start
  go_enter Tryd.func12, Tryd.ntmps12
  go_wp2_with fail
  generalize (w.alloc (.cells #[.int .u64 f.e, .int .u64 f.s, .slice ao n cap] 25)) = w1 at *
  obtain ⟨B, hB⟩ : ∃ B, B = w.heap.size := ⟨_, rfl⟩
  rw [← hB] at P0 ⊢
  have HB := hide hB
  clear hB
  refine (refnum_any n 2 2 w1 rfl (by omega) (by omega) (by omega)).mono ?_
  rintro e w2 ⟨v1, rfl, hv, hg⟩
  have P2 := hide (P0.out.grown hg)
  obtain ⟨vo, vc, rfl, q1, q2, q3, q4, q5, q6⟩ := own_at hv
  have HV := hide (And.intro q4 q5)
  clear hg P0 hv q1 q2 q3 q4 q5 q6
  go_wp2_with (at_builtin; refine wpList_append_at rfl (.tmp 9) (.tmp 14) rfl (B + 1) _ _ _ rfl P2.out.own vo 2 vc (leB n 2) rfl (leB_length _ _) HV.out.1 HV.out.2 (by simp) (row_lt P2.out.box) ?_)
  intro vb w3 ho hg
  have P3 := hide (P2.out.next (m := 2) (leB_length n 2) (by simpa [leB_length] using ho) (by simpa using hg))
  obtain ⟨bo, bc, rfl, -⟩ := own_at P3.out.own
  clear ho hg P2 HV
  obtain ⟨c0, c1, c2⟩ := box_cells P3.out.box
  go_wp2_with fail
  refine (refnum_any f.e 8 8 w3 rfl (by omega) HF.out.1.e0 HF.out.1.e1).mono ?_
  rintro e w4 ⟨v1, rfl, hv, hg⟩
  have P4 := hide (P3.out.grown hg)
  obtain ⟨vo, vc, rfl, q1, q2, q3, q4, q5, q6⟩ := own_at hv
  have HV := hide (And.intro q4 q5)
  clear hg P3 hv q1 q2 q3 q4 q5 q6 c0 c1 c2
  go_wp2_with (at_builtin; refine wpList_append_at rfl (.tmp 16) (.tmp 19) rfl (B + 1) _ _ _ rfl P4.out.own vo 8 vc (leB f.e 8) rfl (leB_length _ _) HV.out.1 HV.out.2 (by simp [leB_length]) (row_lt P4.out.box) ?_)
  intro vb w5 ho hg
  have P5 := hide (P4.out.next (m := 8) (leB_length f.e 8) (by simpa [leB_length] using ho) (by simpa using hg))
  obtain ⟨bo, bc, rfl, -⟩ := own_at P5.out.own
  clear ho hg P4 HV
  obtain ⟨c0, c1, c2⟩ := box_cells P5.out.box
  go_wp2_with fail
  refine (refnum_any f.s 8 8 w5 rfl (by omega) HF.out.1.s0 HF.out.1.s1).mono ?_
  rintro e w6 ⟨v1, rfl, hv, hg⟩
  have P6 := hide (P5.out.grown hg)
  obtain ⟨vo, vc, rfl, q1, q2, q3, q4, q5, q6⟩ := own_at hv
  have HV := hide (And.intro q4 q5)
  clear hg P5 hv q1 q2 q3 q4 q5 q6 c0 c1 c2
  go_wp2_with (at_builtin; refine wpList_append_at rfl (.tmp 21) (.tmp 24) rfl (B + 1) _ _ _ rfl P6.out.own vo 8 vc (leB f.s 8) rfl (leB_length _ _) HV.out.1 HV.out.2 (by simp [leB_length]) (row_lt P6.out.box) ?_)
  intro vb w7 ho hg
  have P7 := hide (P6.out.next (m := 8) (leB_length f.s 8) (by simpa [leB_length] using ho) (by simpa using hg))
  obtain ⟨bo, bc, rfl, -⟩ := own_at P7.out.own
  clear ho hg P6 HV
  obtain ⟨c0, c1, c2⟩ := box_cells P7.out.box
  have HA7 := hide (HF.out.2.2.1.kept P7.out.gr (fun _ _ e => by cases e))
  go_wp2_with (at_builtin; refine wpList_append_at rfl (.tmp 26) (.tmp 28) rfl (B + 1) _ _ _ rfl P7.out.own ao n cap f.b rfl HF.out.2.1 HA7.out HF.out.2.2.2 (by simp [leB_length]; omega) (row_lt P7.out.box) ?_)
  intro vb w8 ho hg
  have P8 := hide (P7.out.next (m := n) HF.out.2.1 (by simpa [leB_length] using ho) (by simpa using hg))
  rw [← HF.out.2.1, head_parts] at P8
  clear ho hg P7 HA7 c0 c1 c2
  have hh := f.head_length
  rw [HF.out.2.1] at hh
  have HH := hide hh
  clear hh
  obtain ⟨bo, bc, rfl, -, -, -, q4, -⟩ := own_at P8.out.own
  have HQ4 := hide q4
  clear q4
  have hbh := hide (Fr.head_byt HF.out.1.byt)
  go_wp2_with fail
  refine (rsum_any bo _ bc f.head w8 rfl hbh.out HQ4.out (by rw [HH.out]; omega)).mono ?_
  rintro e w9 ⟨rfl, rfl⟩
  have hs := sumI_lt hbh.out
  go_wp2_with fail
  refine (refnum_any (sumI f.head) 4 4 w9 rfl (by omega) hs.1 (by omega)).mono ?_
  rintro e w10 ⟨v1, rfl, hv, hg⟩
  have P10 := hide (P8.out.grown hg)
  obtain ⟨vo, vc, rfl, q1, q2, q3, q4, q5, q6⟩ := own_at hv
  have HV := hide (And.intro q4 q5)
  clear hg P8 hv q1 q2 q3 q4 q5 q6 HQ4
  go_wp2_with (at_builtin; refine wpList_append_at rfl (.tmp 30) (.tmp 34) rfl (B + 1) _ _ _ rfl P10.out.own vo 4 vc (leB (sumI f.head) 4) rfl (leB_length _ _) HV.out.1 HV.out.2 (by rw [HH.out]; omega) (row_lt P10.out.box) ?_)
  intro vb w11 ho hg
  have P11 := hide (P10.out.next (m := 4) (leB_length (sumI f.head) 4) (by simpa [leB_length] using ho) (by simpa using hg))
  obtain ⟨bo2, bc2, rfl, -⟩ := own_at P11.out.own
  clear ho hg P10 HV
  go_wp2
  go_ret2
  have hl := f.out_length
  rw [HF.out.2.1] at hl
  refine ⟨_, rfl, ?_, P11.out.gr⟩
  have := own_base P11.out.own (show w.heap.size ≤ B + 1 by have := HB.out; omega)
  rw [show f.head ++ leB (sumI f.head) 4 = f.out from rfl, hl] at this
  rw [show f.head ++ leB (sumI f.head) 4 = f.out from rfl, hl]
  exact this
end Go.Proofs.YtoeehajdmdmemaaDoor
