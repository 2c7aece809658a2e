/- Texts joined: FFd, FFe, FRv. -/
import Derived.Test.YtofdijaipjkfbaaGreatDoorJkAf
import Derived.RangeFuncNested
import Derived.RangeFuncBound
import Derived.RangeFuncCalls
import Derived.RangeFuncLeaves
import Derived.RangeFuncBox
/- The contracts of the document's own Size and Put. -/
namespace Go.Proofs.YtofdijaipjkfbaaGreatDoor.Fm
open Go.RowKit
attribute [local go_sem ↓] Go.wp_at_zero Go.wp_at_succ

theorem rsum_any (ao : Option Addr) (n c : Nat) (xs : List Int) (w : World) (hn : xs.length = n) (hx : Byt xs) (hat : At w ao xs) (hm : n ≤ 4611686018427387904) :
    Calls Tryz.prog 184 #[.slice ao n c] w fun e w' => e = .returned (.int .u32 (sumI xs)) ∧ w' = w :=
  Cr.rsum_any ao n c (nats xs) w (by rw [nats_length, hn]) (nats_lt hx) (hat.nats hx) hm

set_option maxHeartbeats 400000 in
theorem rsize_any (n : Int) (w : World) (_h0 : -9223372036854775808 ≤ n) (_h1 : n ≤ 9223372036854775807) : Calls Tryz.prog 203 #[.int .i64 n] w fun e w' => e = .returned (.int .i64 (sizeF n)) ∧ w' = w := by
  by_cases h : n < 0
  · have e : sizeF n = 0 := by unfold sizeF; rw [if_pos (Or.inl h)]
    rw [e]
    go_enter Tryz.func203, Tryz.ntmps203
    go_wp2
    go_ret
    exact ⟨rfl, rfl⟩
  · by_cases h2 : 32 < n
    · have e : sizeF n = 0 := by unfold sizeF; rw [if_pos (Or.inr h2)]
      rw [e]
      go_enter Tryz.func203, Tryz.ntmps203
      go_wp2
      go_ret
      exact ⟨rfl, rfl⟩
    · have e : sizeF n = 22 + n := by unfold sizeF; rw [if_neg (by omega)]
      rw [e]
      go_enter Tryz.func203, Tryz.ntmps203
      go_wp2
      go_ret
      exact ⟨by go_num, rfl⟩

set_option maxHeartbeats 1000000 in
theorem rput_long (e s : Int) (ao : Option Addr) (n cap : Nat) (w : World) (hn : 32 < n) (hm : n ≤ 4611686018427387904) :
    Calls Tryz.prog 144 #[frV e s (.slice ao n cap)] w fun r w' => r = .returned (.tuple #[.slice none 0 0, .int .i64 3]) ∧ w.grownBy w' none := by
  unfold frV
  go_enter Tryz.func144, Tryz.ntmps144
  go_wp2
  go_ret2
  exact ⟨rfl, World.grownBy_alloc w _ none⟩

/-- Inside the document's Put: the frame in its box, the bytes behind it. -/
structure RpS (w wr : World) (B : Nat) (E S : Int) (v vb : Value) (bs : List Int) : Prop where
  box : wr.heap[B]? = some (.cells [Value.int .u64 E, .int .u64 S, v].toArray 104 (0, 0))
  own : wr.ownsRow (B + 1) 5 1 vb bs.length (bs.map (Value.int .u8))
  gr : w.grownBy wr none
  lo : w.heap.size ≤ B
theorem RpS.grown {w wr wr' : World} {B : Nat} {E S : Int} {v vb : Value} {bs : List Int} (h : RpS w wr B E S v vb bs) (hg : wr.grownBy wr' none) : RpS w wr' B E S v vb bs :=
  ⟨(hg.block B (row_lt h.box) (by simp)).trans h.box, own_grown h.own hg, grown_trans h.gr hg, h.lo⟩
theorem RpS.next {w wr wr' : World} {B : Nat} {E S : Int} {v vb vb' : Value} {bs ys : List Int} {m : Nat} (h : RpS w wr B E S v vb bs) (hm : ys.length = m) (ho : wr'.ownsRow (B + 1) 5 1 vb' (bs.length + m) (bs.map (Value.int .u8) ++ ys.map (Value.int .u8))) (hg : wr.grownBy wr' vb.ownBlock) : RpS w wr' B E S v vb' (bs ++ ys) :=
  ⟨(hg.block B (row_lt h.box) (fun e => by have := h.own.lt B e.symm; omega)).trans h.box, by rw [List.length_append, hm, List.map_append]; exact ho,
    grown_then h.gr hg (fun j e => Or.inl (by have := (h.own.lt j e).1; have := h.lo; omega)), h.lo⟩
theorem RpS.start {w : World} {E S : Int} {v : Value} : RpS w (w.alloc (.cells #[.int .u64 E, .int .u64 S, v] 104)) w.heap.size E S v (.slice none 0 0) [] :=
  ⟨heap_alloc_new w _, World.ownsRow_nil _ _ _ _, World.grownBy_alloc w _ none, Nat.le_refl _⟩

set_option maxHeartbeats 2000000 in
theorem rput_any (f : Fr) (hf : f.Ok) (hl : f.b.length ≤ 32) (ao : Option Addr) (n cap : Nat) (w : World) (hn : f.b.length = n) (hat : At w ao f.b) (hnil : ao = none → n = 0 ∧ cap = 0) :
    Calls Tryz.prog 144 #[frV f.e f.s (.slice ao n cap)] w fun r w' => ∃ v, r = .returned (.tuple #[v, .int .i64 0]) ∧ w'.ownsRow w.heap.size 5 1 v (22 + n) (f.out.map (Value.int .u8)) ∧ w.grownBy w' none := by
  unfold frV
  have HF := hide (And.intro hf (And.intro hn (And.intro hat hnil)))
  have hn32 : n ≤ 32 := by omega
  clear hf hl hat hn hnil
  have P0 : Hid (RpS w (w.alloc (.cells #[.int .u64 f.e, .int .u64 f.s, .slice ao n cap] 104)) w.heap.size f.e f.s (.slice ao n cap) (.slice none 0 0) []) := RpS.start
  go_enter Tryz.func144, Tryz.ntmps144
  go_wp2_with fail
  generalize (w.alloc (.cells #[.int .u64 f.e, .int .u64 f.s, .slice ao n cap] 104)) = w1 at *
  obtain ⟨B, hB⟩ : ∃ B, B = w.heap.size := ⟨_, rfl⟩
  rw [← hB] at P0 ⊢
  have HB := hide hB
  clear hB
  refine (refnum_any n 2 2 w1 rfl (by omega) (by omega) (by omega)).mono ?_
  rintro e w2 ⟨v1, rfl, hv, hg⟩
  have P2 := hide (P0.out.grown hg)
  obtain ⟨vo, vc, rfl, q1, q2, q3, q4, q5, q6⟩ := own_at hv
  have HV := hide (And.intro q4 q5)
  clear hg P0 hv q1 q2 q3 q4 q5 q6
  go_wp2_with (at_builtin; refine wpList_append_at rfl (.tmp 9) (.tmp 14) rfl (B + 1) _ _ _ rfl P2.out.own vo 2 vc (leB n 2) rfl (leB_length _ _) HV.out.1 HV.out.2 (by simp) (row_lt P2.out.box) ?_)
  intro vb w3 ho hg
  have P3 := hide (P2.out.next (m := 2) (leB_length n 2) (by simpa [leB_length] using ho) (by simpa using hg))
  obtain ⟨bo, bc, rfl, -⟩ := own_at P3.out.own
  clear ho hg P2 HV
  obtain ⟨c0, c1, c2⟩ := box_cells P3.out.box
  go_wp2_with fail
  refine (refnum_any f.e 8 8 w3 rfl (by omega) HF.out.1.e0 HF.out.1.e1).mono ?_
  rintro e w4 ⟨v1, rfl, hv, hg⟩
  have P4 := hide (P3.out.grown hg)
  obtain ⟨vo, vc, rfl, q1, q2, q3, q4, q5, q6⟩ := own_at hv
  have HV := hide (And.intro q4 q5)
  clear hg P3 hv q1 q2 q3 q4 q5 q6 c0 c1 c2
  go_wp2_with (at_builtin; refine wpList_append_at rfl (.tmp 16) (.tmp 19) rfl (B + 1) _ _ _ rfl P4.out.own vo 8 vc (leB f.e 8) rfl (leB_length _ _) HV.out.1 HV.out.2 (by simp [leB_length]) (row_lt P4.out.box) ?_)
  intro vb w5 ho hg
  have P5 := hide (P4.out.next (m := 8) (leB_length f.e 8) (by simpa [leB_length] using ho) (by simpa using hg))
  obtain ⟨bo, bc, rfl, -⟩ := own_at P5.out.own
  clear ho hg P4 HV
  obtain ⟨c0, c1, c2⟩ := box_cells P5.out.box
  go_wp2_with fail
  refine (refnum_any f.s 8 8 w5 rfl (by omega) HF.out.1.s0 HF.out.1.s1).mono ?_
  rintro e w6 ⟨v1, rfl, hv, hg⟩
  have P6 := hide (P5.out.grown hg)
  obtain ⟨vo, vc, rfl, q1, q2, q3, q4, q5, q6⟩ := own_at hv
  have HV := hide (And.intro q4 q5)
  clear hg P5 hv q1 q2 q3 q4 q5 q6 c0 c1 c2
  go_wp2_with (at_builtin; refine wpList_append_at rfl (.tmp 21) (.tmp 24) rfl (B + 1) _ _ _ rfl P6.out.own vo 8 vc (leB f.s 8) rfl (leB_length _ _) HV.out.1 HV.out.2 (by simp [leB_length]) (row_lt P6.out.box) ?_)
  intro vb w7 ho hg
  have P7 := hide (P6.out.next (m := 8) (leB_length f.s 8) (by simpa [leB_length] using ho) (by simpa using hg))
  obtain ⟨bo, bc, rfl, -⟩ := own_at P7.out.own
  clear ho hg P6 HV
  obtain ⟨c0, c1, c2⟩ := box_cells P7.out.box
  have HA7 := hide (HF.out.2.2.1.kept P7.out.gr (fun _ _ e => by cases e))
  go_wp2_with (at_builtin; refine wpList_append_at rfl (.tmp 26) (.tmp 28) rfl (B + 1) _ _ _ rfl P7.out.own ao n cap f.b rfl HF.out.2.1 HA7.out HF.out.2.2.2 (by simp [leB_length]; omega) (row_lt P7.out.box) ?_)
  intro vb w8 ho hg
  have P8 := hide (P7.out.next (m := n) HF.out.2.1 (by simpa [leB_length] using ho) (by simpa using hg))
  rw [← HF.out.2.1, head_parts] at P8
  clear ho hg P7 HA7 c0 c1 c2
  have hh := f.head_length
  rw [HF.out.2.1] at hh
  have HH := hide hh
  clear hh
  obtain ⟨bo, bc, rfl, -, -, -, q4, -⟩ := own_at P8.out.own
  have HQ4 := hide q4
  clear q4
  have hbh := hide (Fr.head_byt HF.out.1.byt)
  go_wp2_with fail
  refine (rsum_any bo _ bc f.head w8 rfl hbh.out HQ4.out (by rw [HH.out]; omega)).mono ?_
  rintro e w9 ⟨rfl, rfl⟩
  have hs := sumI_lt hbh.out
  go_wp2_with fail
  refine (refnum_any (sumI f.head) 4 4 w9 rfl (by omega) hs.1 (by omega)).mono ?_
  rintro e w10 ⟨v1, rfl, hv, hg⟩
  have P10 := hide (P8.out.grown hg)
  obtain ⟨vo, vc, rfl, q1, q2, q3, q4, q5, q6⟩ := own_at hv
  have HV := hide (And.intro q4 q5)
  clear hg P8 hv q1 q2 q3 q4 q5 q6 HQ4
  go_wp2_with (at_builtin; refine wpList_append_at rfl (.tmp 30) (.tmp 34) rfl (B + 1) _ _ _ rfl P10.out.own vo 4 vc (leB (sumI f.head) 4) rfl (leB_length _ _) HV.out.1 HV.out.2 (by rw [HH.out]; omega) (row_lt P10.out.box) ?_)
  intro vb w11 ho hg
  have P11 := hide (P10.out.next (m := 4) (leB_length (sumI f.head) 4) (by simpa [leB_length] using ho) (by simpa using hg))
  obtain ⟨bo2, bc2, rfl, -⟩ := own_at P11.out.own
  clear ho hg P10 HV
  go_wp2
  go_ret2
  have hl := f.out_length
  rw [HF.out.2.1] at hl
  refine ⟨_, rfl, ?_, P11.out.gr⟩
  have := own_base P11.out.own (show w.heap.size ≤ B + 1 by have := HB.out; omega)
  rw [show f.head ++ leB (sumI f.head) 4 = f.out from rfl, hl] at this
  rw [show f.head ++ leB (sumI f.head) 4 = f.out from rfl, hl]
  exact this
end Go.Proofs.YtofdijaipjkfbaaGreatDoor.Fm
/- The contract of the document's own Get. -/
namespace Go.Proofs.YtofdijaipjkfbaaGreatDoor.Fm
open Go.RowKit
attribute [local go_sem ↓] Go.wp_at_zero Go.wp_at_succ

/-- The ways through getF. -/
theorem getF_ways {xs : List Int} (hB : Byt xs) : (xs.length < 2 ∧ getF xs = ⟨noFr, 0, 4⟩) ∨ (2 ≤ xs.length ∧ 32 < blen xs ∧ blen xs < 65536 ∧ getF xs = ⟨noFr, 0, 80⟩) ∨
    (2 ≤ xs.length ∧ blen xs ≤ 32 ∧ ((xs.length < 22 + blen xs ∧ getF xs = ⟨noFr, 0, 4⟩) ∨ (22 + blen xs ≤ xs.length ∧
      ((leV ((xs.drop (18 + blen xs)).take 4) ≠ sumI (xs.take (18 + blen xs)) ∧ getF xs = ⟨noFr, 0, 81⟩) ∨
       (leV ((xs.drop (18 + blen xs)).take 4) = sumI (xs.take (18 + blen xs)) ∧ getF xs = ⟨⟨leV ((xs.drop 2).take 8), leV ((xs.drop 10).take 8), (xs.drop 18).take (blen xs)⟩, 22 + blen xs, 0⟩))))) := by
  have hb := blen_cast hB
  have hb2 := (leV_bound (xs.take 2) (hB.take 2)).2
  unfold getF
  by_cases h1 : xs.length < 2
  · exact Or.inl ⟨h1, by rw [if_pos h1]⟩
  · have hl2 : (xs.take 2).length = 2 := by simp; omega
    rw [hl2] at hb2
    have hb3 : leV (xs.take 2) < 65536 := hb2
    rw [if_neg h1]
    by_cases h2 : 32 < blen xs
    · exact Or.inr (Or.inl ⟨by omega, h2, by omega, by rw [if_pos h2]⟩)
    · refine Or.inr (Or.inr ⟨by omega, by omega, ?_⟩)
      rw [if_neg h2]
      by_cases h3 : xs.length < 22 + blen xs
      · exact Or.inl ⟨h3, by rw [if_pos h3]⟩
      · refine Or.inr ⟨by omega, ?_⟩
        rw [if_neg h3]
        by_cases h4 : leV ((xs.drop (18 + blen xs)).take 4) = sumI (xs.take (18 + blen xs))
        · exact Or.inr ⟨h4, by rw [if_neg (by simpa using h4)]⟩
        · exact Or.inl ⟨h4, by rw [if_pos h4]⟩

theorem own_form {w : World} {base n size : Nat} {e : TypeId} {v : Value} {xs : List Value} (h : w.ownsRow base e size v n xs) : ∃ ao cap, v = .slice ao n cap := by
  rcases h.2 with ⟨rfl, rfl⟩ | ⟨g, cap, cur, rfl, _⟩
  · exact ⟨_, _, rfl⟩
  · exact ⟨_, _, rfl⟩
/-- The answer's box, as it was made. -/
def BoxZ (w wr : World) : Prop := wr.heap[w.heap.size]? = some (.cells [Value.int .u64 0, .int .u64 0, .slice none 0 0].toArray 104 (0, 0)) ∧ w.grownBy wr none
theorem BoxZ.start (w : World) : BoxZ w (w.alloc (.cells #[.int .u64 0, .int .u64 0, .slice none 0 0] 104)) := ⟨heap_alloc_new w _, World.grownBy_alloc w _ none⟩
theorem BoxZ.grown {w wr wr' : World} (h : BoxZ w wr) (hg : wr.grownBy wr' none) : BoxZ w wr' := ⟨(hg.block _ (row_lt h.1) (by simp)).trans h.1, grown_trans h.2 hg⟩
theorem BoxZ.ends {w wr wr' : World} (h : BoxZ w wr) (hg : wr.grownBy wr' (some w.heap.size)) : w.grownBy wr' none :=
  grown_then h.2 hg (fun j e => by cases e; exact Or.inl (Nat.le_refl _))

set_option maxHeartbeats 1000000 in
theorem rget_any (xs : List Int) (hB : Byt xs) (ao : Option Addr) (n cap : Nat) (w : World) (hn : xs.length = n) (hat : At w ao xs) (hnil : ao = none → n = 0 ∧ cap = 0) (hc : n ≤ cap) (hm : n ≤ 140737488355328) :
    Calls Tryz.prog 186 #[.slice ao n cap] w fun r w' => ∃ v, r = .returned (.tuple #[frV (getF xs).f.e (getF xs).f.s v, .int .i64 ((getF xs).n : Int), .int .i64 (getF xs).c]) ∧
      w'.ownsRow w.heap.size 5 1 v (getF xs).f.b.length ((getF xs).f.b.map (Value.int .u8)) ∧ w.grownBy w' none := by
  unfold frV
  have HF := hide (And.intro hB (And.intro hn (And.intro hat hnil)))
  have HW := hide (getF_ways hB)
  have P0 := hide (BoxZ.start w)
  obtain ⟨c0, c1, c2⟩ := box_cells P0.out.1
  have f0 := free_row P0.out.1 0
  have f1 := free_row P0.out.1 1
  have f2 := free_row P0.out.1 2
  rw [hn] at HW
  clear hB hat hnil hn
  rcases HW.out with ⟨a1, a2⟩ | ⟨a1, a2, a3, a4⟩ | ⟨a1, a2, hr⟩
  · have A2 := hide a2
    clear a2
    go_enter Tryz.func186, Tryz.ntmps186
    go_wp2
    refine bodyPost_ret (v := .tuple #[.agg #[.int .u64 0, .int .u64 0, .slice none 0 0], .int .i64 0, .int .i64 4]) ?_ rfl ?_
    · rw [results_cell_tmp2 rfl]; go_simp
    rw [A2.out]
    exact ⟨_, rfl, World.ownsRow_nil _ _ _ _, P0.out.2⟩
  · have A2 := hide a4
    have HV : Hid (Calls Tryz.prog 202 #[.slice ao 2 cap] (w.alloc (.cells #[.int .u64 0, .int .u64 0, .slice none 0 0] 104)) fun e w' => e = .returned (.int .u64 ((blen xs : Nat) : Int)) ∧ w' = (w.alloc (.cells #[.int .u64 0, .int .u64 0, .slice none 0 0] 104))) := by
      rw [blen_cast HF.out.1]
      exact value_any ao 2 cap (xs.take 2) _ (by have := HF.out.2.1; simp; omega) ((HF.out.2.2.1.kept P0.out.2 (fun _ _ e => by cases e)).take 2) (HF.out.1.take 2) (by omega)
    have hst := slice_to ao n cap 2 (by omega)
    clear a4
    generalize blen xs = K at *
    go_enter Tryz.func186, Tryz.ntmps186
    go_wp2_with fail
    refine HV.out.mono ?_
    rintro e w2 ⟨rfl, rfl⟩
    clear hst
    go_wp2
    refine bodyPost_ret (v := .tuple #[.agg #[.int .u64 0, .int .u64 0, .slice none 0 0], .int .i64 0, .int .i64 80]) ?_ rfl ?_
    · rw [results_cell_tmp2 rfl]; go_simp
    rw [A2.out]
    exact ⟨_, rfl, World.ownsRow_nil _ _ _ _, P0.out.2⟩
  · have HV : Hid (Calls Tryz.prog 202 #[.slice ao 2 cap] (w.alloc (.cells #[.int .u64 0, .int .u64 0, .slice none 0 0] 104)) fun e w' => e = .returned (.int .u64 ((blen xs : Nat) : Int)) ∧ w' = (w.alloc (.cells #[.int .u64 0, .int .u64 0, .slice none 0 0] 104))) := by
      rw [blen_cast HF.out.1]
      exact value_any ao 2 cap (xs.take 2) _ (by have := HF.out.2.1; simp; omega) ((HF.out.2.2.1.kept P0.out.2 (fun _ _ e => by cases e)).take 2) (HF.out.1.take 2) (by omega)
    have hst := slice_to ao n cap 2 (by omega)
    have HR := hide hr
    clear hr
    obtain ⟨K, hK⟩ : ∃ K, K = blen xs := ⟨_, rfl⟩
    rw [← hK] at HR HV a2
    clear hK
    have hsz : sizeF (K : Int) = ((22 + K : Nat) : Int) := by unfold sizeF; rw [if_neg (by omega)]; omega
    go_enter Tryz.func186, Tryz.ntmps186
    go_wp2_with fail
    refine HV.out.mono ?_
    rintro e w2 ⟨rfl, rfl⟩
    clear hst HV
    go_wp2_with fail
    refine (rsize_any (K : Int) _ (by omega) (by omega)).mono ?_
    rw [hsz]
    rintro e w2 ⟨rfl, rfl⟩
    clear hsz
    rcases HR.out with ⟨b1, b2⟩ | ⟨b1, b2⟩
    · have A2 := hide b2
      clear b2 HR
      have hlt : (n : Int) < ((22 + K : Nat) : Int) := by omega
      go_wp2
      refine bodyPost_ret (v := .tuple #[.agg #[.int .u64 0, .int .u64 0, .slice none 0 0], .int .i64 0, .int .i64 4]) ?_ rfl ?_
      · rw [results_cell_tmp2 rfl]; go_simp
      rw [A2.out]
      exact ⟨_, rfl, World.ownsRow_nil _ _ _ _, P0.out.2⟩
    · have hge : ((22 + K : Nat) : Int) ≤ (n : Int) := by omega
      have hsub : ((22 + K : Nat) : Int) - 4 = ((18 + K : Nat) : Int) := by omega
      have hwr : IntKind.i64.wrap ((18 + K : Nat) : Int) = ((18 + K : Nat) : Int) := by rw [IntKind.wrap_i64]; omega
      have hs1 := slice_lh ao n cap (18 + K) (22 + K) (by omega) (by omega)
      rw [show 22 + K - (18 + K) = 4 by omega] at hs1
      have hs2 := slice_to ao n cap (18 + K) (by omega)
      have HB2 := hide b2
      have HV : Hid (∀ w', w.grownBy w' none → Calls Tryz.prog 202 #[.slice (cutA ao (18 + K) cap) 4 (cap - (18 + K))] w' fun e w'' => e = .returned (.int .u64 (leV ((xs.drop (18 + K)).take 4))) ∧ w'' = w') := by
        intro w' hg
        refine value_any _ _ _ ((xs.drop (18 + K)).take 4) w' (by have := HF.out.2.1; simp; omega) ?_ ((HF.out.1.drop _).take 4) (by omega)
        exact ((HF.out.2.2.1.kept hg (fun _ _ e => by cases e)).cut _ _ (by have := HF.out.2.1; omega)).take 4
      have HS : Hid (∀ w', w.grownBy w' none → Calls Tryz.prog 184 #[.slice ao (18 + K) cap] w' fun e w'' => e = .returned (.int .u32 (sumI (xs.take (18 + K)))) ∧ w'' = w') := by
        intro w' hg
        exact rsum_any _ _ _ (xs.take (18 + K)) w' (by have := HF.out.2.1; simp; omega) (HF.out.1.take _) ((HF.out.2.2.1.kept hg (fun _ _ e => by cases e)).take _) (by omega)
      have hsm := sumI_lt (HF.out.1.take (18 + K) : Byt (xs.take (18 + K)))
      generalize sumI (xs.take (18 + K)) = SM at *
      generalize hVV : leV ((xs.drop (18 + K)).take 4) = VV at *
      clear hVV b2 HR a1
      generalize cutA ao (18 + K) cap = bo at *
      generalize cap - (18 + K) = bc at *
      have hq : 22 + K ≤ 54 := by omega
      generalize hK18 : 18 + K = K18 at *
      generalize hK22 : 22 + K = K22 at *
      have HKK := hide (And.intro hK18 hK22)
      clear hK18 hK22
      obtain ⟨W1, hW1⟩ : ∃ W1, W1 = w.alloc (.cells #[.int .u64 0, .int .u64 0, .slice none 0 0] 104) := ⟨_, rfl⟩
      rw [← hW1] at P0 c0 c1 c2 f0 f1 f2 ⊢
      clear hW1
      go_wp2
      go_quiet (first | (go_at_call 202; exact Calls.quiet_of_same (HV.out _ (grown_trans P0.out.2 (grown_drewN _ _ _)))) | (go_at_call 184; exact Calls.quiet_of_same (HS.out _ (grown_trans P0.out.2 (grown_drewN _ _ _)))))
      have P2 := hide (P0.out.grown (grown_drewN W1 nq none))
      generalize W1.drewN nq = W2 at *
      clear c0 c1 c2 f0 f1 f2 P0 hs1 hs2
      rcases HB2.out with ⟨d1, d2⟩ | ⟨d1, d2⟩
      · have A2 := hide d2
        have hne : (VV != SM) = true := by simpa using d1
        obtain ⟨c0, c1, c2⟩ := box_cells P2.out.1
        have f0 := free_row P2.out.1 0
        have f1 := free_row P2.out.1 1
        have f2 := free_row P2.out.1 2
        clear d2 d1
        go_wp2
        obtain ⟨eb, eg⟩ := set3 P2.out.1 (.int .u64 0) (.int .u64 0) (.slice none 0 0)
        obtain ⟨e0, e1, e2⟩ := box_cells eb
        clear c0 c1 c2 f0 f1 f2 eb
        have EG := hide (P2.out.ends eg)
        clear eg
        generalize ((W2.setCell ⟨w.heap.size, 0, none⟩ (.int .u64 0)).setCell ⟨w.heap.size, 1, none⟩ (.int .u64 0)).setCell ⟨w.heap.size, 2, none⟩ (.slice none 0 0) = W3 at *
        refine bodyPost_ret (v := .tuple #[.agg #[.int .u64 0, .int .u64 0, .slice none 0 0], .int .i64 0, .int .i64 81]) ?_ rfl ?_
        · rw [results_cell_tmp2 rfl]; go_simp
        rw [A2.out]
        exact ⟨_, rfl, World.ownsRow_nil _ _ _ _, EG.out⟩
      · have A2 := hide d2
        subst d1
        clear d2 HB2 HV HS hsm
        obtain ⟨hk1, hk2⟩ := HKK.out
        have hs3 : ∀ w', (Instr.slice 39 (.slice ao n cap) (some (.int .i64 2)) (some (.int .i64 10)) none).run Tryz.prog w' = .ok (.slice (cutA ao 2 cap) 8 (cap - 2)) w' := slice_lh ao n cap 2 10 (by omega) (by omega)
        have hs4 : ∀ w', (Instr.slice 39 (.slice ao n cap) (some (.int .i64 10)) (some (.int .i64 18)) none).run Tryz.prog w' = .ok (.slice (cutA ao 10 cap) 8 (cap - 10)) w' := slice_lh ao n cap 10 18 (by omega) (by omega)
        have hv3 : Hid (∀ w', w.grownBy w' none → Calls Tryz.prog 202 #[.slice (cutA ao 2 cap) (10 - 2) (cap - 2)] w' fun e w'' => e = .returned (.int .u64 (leV ((xs.drop 2).take 8))) ∧ w'' = w') := by
          intro w' hg
          refine value_any _ _ _ ((xs.drop 2).take 8) w' (by have := HF.out.2.1; simp; omega) ?_ ((HF.out.1.drop _).take 8) (by omega)
          exact ((HF.out.2.2.1.kept hg (fun _ _ e => by cases e)).cut _ _ (by have := HF.out.2.1; omega)).take 8
        have hv4 : Hid (∀ w', w.grownBy w' none → Calls Tryz.prog 202 #[.slice (cutA ao 10 cap) (18 - 10) (cap - 10)] w' fun e w'' => e = .returned (.int .u64 (leV ((xs.drop 10).take 8))) ∧ w'' = w') := by
          intro w' hg
          refine value_any _ _ _ ((xs.drop 10).take 8) w' (by have := HF.out.2.1; simp; omega) ?_ ((HF.out.1.drop _).take 8) (by omega)
          exact ((HF.out.2.2.1.kept hg (fun _ _ e => by cases e)).cut _ _ (by have := HF.out.2.1; omega)).take 8
        simp only [Nat.reduceSub] at hv3 hv4
        generalize leV ((xs.drop 2).take 8) = E2 at *
        generalize leV ((xs.drop 10).take 8) = E3 at *
        generalize cutA ao 2 cap = so at *
        generalize cutA ao 10 cap = to at *
        generalize cap - 2 = sc at *
        generalize cap - 10 = tc at *
        clear hk1 hk2
        go_wp2
        go_region_with (first | (go_at_call_of 202 (so); refine (hv3.out _ ?_).mono ?_; (first | exact grown_trans P2.out.2 (grown_drew _ _) | exact grown_trans (grown_trans P2.out.2 (grown_drew _ _)) (World.grownBy_alloc _ _ none)); rintro e w3 ⟨rfl, rfl⟩) | (go_at_call_of 202 (to); refine (hv4.out _ ?_).mono ?_; (first | exact grown_trans P2.out.2 (grown_drew _ _) | exact grown_trans (grown_trans P2.out.2 (grown_drew _ _)) (World.grownBy_alloc _ _ none)); rintro e w3 ⟨rfl, rfl⟩))
        all_goals
          have hF0 := heap_alloc_new W2 (.cells [Value.int .u64 E2, .int .u64 E3, .slice none 0 0].toArray 104)
          have hg3 : W2.grownBy (W2.alloc (.cells #[.int .u64 E2, .int .u64 E3, .slice none 0 0] 104)).drew none := grown_trans (World.grownBy_alloc W2 _ none) (grown_drew _ _)
          have P3 := hide (P2.out.grown hg3)
          have hFw : w.heap.size < W2.heap.size := row_lt P2.out.1
          have HFb : Hid ((W2.alloc (.cells #[.int .u64 E2, .int .u64 E3, .slice none 0 0] 104)).drew.heap[W2.heap.size]? = some (.cells [Value.int .u64 E2, .int .u64 E3, .slice none 0 0].toArray 104 (0, 0))) := hF0
          clear hF0 hg3 P2
          obtain ⟨F, hF⟩ : ∃ F, F = W2.heap.size := ⟨_, rfl⟩
          rw [← hF] at HFb hFw ⊢
          clear hF
          generalize (W2.alloc (.cells #[.int .u64 E2, .int .u64 E3, .slice none 0 0] 104)).drew = W3 at *
          obtain ⟨hk1, hk2⟩ := HKK.out
          have hs5 : ∀ w', (Instr.slice 39 (.slice ao n cap) (some (.int .i64 18)) (some (.int .i64 (K18 : Int))) none).run Tryz.prog w' = .ok (.slice (cutA ao 18 cap) (K18 - 18) (cap - 18)) w' := slice_lh ao n cap 18 K18 (by omega) (by omega)
          have hKe : K18 - 18 = K := by omega
          rw [hKe] at hs5
          have hsub : (K22 : Int) - 4 = (K18 : Int) := by omega
          have HA : Hid (At W3.drew (cutA ao 18 cap) ((xs.drop 18).take K)) := ((HF.out.2.2.1.kept (grown_trans P3.out.2 (grown_drew _ none)) (fun _ _ e => by cases e)).cut _ _ (by have := HF.out.2.1; omega)).take K
          have HAl : Hid (((xs.drop 18).take K).length = K) := by show _ = _; have := HF.out.2.1; simp; omega
          have HAn : Hid (cutA ao 18 cap = none → K = 0 ∧ cap - 18 = 0) := by
            intro e
            have : ao = none := by
              unfold cutA at e
              split at e
              · exact e
              · cases ao <;> simp_all
            have := HF.out.2.2.2 this
            omega
          generalize cutA ao 18 cap = uo at *
          generalize cap - 18 = uc at *
          obtain ⟨d0, d1, d2⟩ := box_cells HFb.out
          clear hk1 hk2 hKe
          have g0 := free_row HFb.out 2
          go_wp2
          go_region_law (refine step_append_at rfl (.tmp 48) (.tmp 52) rfl (F + 1) (.slice none 0 0) 0 [] rfl (World.ownsRow_nil _ _ _ _) uo K uc ((xs.drop 18).take K) rfl HAl.out HA.out HAn.out (by omega) (row_lt HFb.out) ?_; intro v' w' ho hg; have HOG := hide (And.intro ho hg); obtain ⟨vo, vc, rfl⟩ := own_form ho; have hb4 := hide ((hg.block F (row_lt HFb.out) (by simp [Value.ownBlock])).trans HFb.out); have d2' := (box_cells hb4.out).2.2; have g2' := free_row hb4.out 2; clear ho hg)
          obtain ⟨ho, hg⟩ := HOG.out
          simp only [Nat.zero_add, List.nil_append, Value.ownBlock] at ho hg ⊢
          have hg4 := grown_trans (grown_drew W3 none) hg
          have hrow := row_setCell hb4.out 2 (.slice vo K vc)
          have hgs := grown_setCell w' F 2 (.slice vo K vc)
          have ho5 := ho.kept hgs (by
            cases hv : (Value.slice vo K vc).ownBlock with
            | none => exact Or.inl rfl
            | some k => exact Or.inr (fun e => by cases e; have := (ho.lt _ hv).1; omega))
          have P5 : Hid (BoxZ w (w'.setCell ⟨F, 2, none⟩ (.slice vo K vc))) := ⟨(hgs.block _ (by have := row_lt (P3.out.grown hg4).1; exact this) (by simp; omega)).trans (P3.out.grown hg4).1, grown_then (P3.out.grown hg4).2 hgs (fun j e => by cases e; exact Or.inl (by omega))⟩
          have HO5 := hide (own_base ho5 (show w.heap.size ≤ F + 1 by omega))
          have HR5 := hide hrow
          clear ho hg hg4 hrow hgs ho5 HOG hb4 d2' g2' d0 d1 d2 g0 HFb P3
          generalize w'.setCell ⟨F, 2, none⟩ (.slice vo K vc) = W5 at *
          obtain ⟨d0, d1, d2⟩ := box_cells (x := Value.int .u64 E2) (y := Value.int .u64 E3) (z := .slice vo K vc) HR5.out
          obtain ⟨c0, c1, c2⟩ := box_cells P5.out.1
          have f0 := free_row P5.out.1 0
          have f1 := free_row P5.out.1 1
          have f2 := free_row P5.out.1 2
          clear hs3 hs4 hs5
          go_wp2
          obtain ⟨eb, eg⟩ := set3 P5.out.1 (.int .u64 E2) (.int .u64 E3) (.slice vo K vc)
          obtain ⟨e0, e1, e2⟩ := box_cells eb
          have HV10 := hide (own_kept HO5.out eg P5.out.1 (by decide))
          clear c0 c1 c2 f0 f1 f2 eb d0 d1 d2
          have EG := hide (P5.out.ends eg)
          clear eg
          generalize ((W5.setCell ⟨w.heap.size, 0, none⟩ (.int .u64 E2)).setCell ⟨w.heap.size, 1, none⟩ (.int .u64 E3)).setCell ⟨w.heap.size, 2, none⟩ (.slice vo K vc) = W6 at *
          refine bodyPost_ret (v := .tuple #[.agg #[.int .u64 E2, .int .u64 E3, .slice vo K vc], .int .i64 (K22 : Int), .int .i64 0]) ?_ rfl ?_
          · rw [results_cell_tmp2 rfl]; go_simp
          rw [A2.out]
          refine ⟨_, rfl, ?_, EG.out⟩
          have := HV10.out
          rw [HAl.out]
          exact this
end Go.Proofs.YtofdijaipjkfbaaGreatDoor.Fm
/- A range over a function whose elements lead to memory: what is so of an element when it is handed on is told to the loop's body. -/
namespace Go.Proofs.YtofdijaipjkfbaaGreatDoor.Fm
open Go.RowKit

/-- New blocks alone leave it so. -/
def Stands {β : Type} (J : β → World → Prop) : Prop := ∀ s A B, J s A → A.grownBy B none → J s B

/-- What the iterator g does from W on: it hands on elements x, each with V pre x in the world in which it is handed on (pre: those ahead of it). -/
def SeqV {α : Type} (F : Fence) (n : Nat) (P : Program) (g : Nat) (lb : Array Value) (encs : α → Array Value) (Kp : World → World → Prop) (V : List α → α → World → Prop) (S : List α → Prop) (W : World) : Prop :=
  ∀ (l : Nat) (J Jx : List α → World → Prop), Stands J → Stands Jx →
    (∀ pre x W1, J pre W1 → V pre x W1 → YieldAt F (n - 1) P l (encs x) W1 fun e W' =>
      (e = .returned (.bool true) ∧ J (pre ++ [x]) W' ∧ Kp W1 W') ∨ (e = .returned (.bool false) ∧ Jx (pre ++ [x]) W')) →
    J [] W →
    CallsIn F n P g (#[.func (.yield l) #[] #[]] ++ lb) W fun e W' => (∃ v, e = .returned v) ∧ ((∃ xs, S xs ∧ J xs W') ∨ (∃ pre, Jx pre W'))

theorem OwnFrom.stands {β : Type} {B : Nat} {I : β → World → Prop} (h : OwnFrom B I) : Stands I := fun s A C hs hg => h s A C none hs hg (fun r e => by cases e)

variable {F : Fence} {n : Nat} {P : Program}

theorem wpIn_range_V {α : Type} {g : Operand} {ps : Array Tmp} {assign body : Code} {Q : Exit → Act → World → Prop} {a : Act} {w : World}
    (hro : F.round = none) (h1 : 1 ≤ n) {gf : Nat} {lb : Array Value} (hg : a.eval g = .func (.func gf) #[] lb) (hFg : F.fn gf) (eg : ∀ args w, (callFunc gf args).run P w = .ok (.enter gf args) w)
    {encs : α → Array Value} {Kp : World → World → Prop} {V : List α → α → World → Prop} {S : List α → Prop} (hseq : ∀ W, w.grownBy W none → SeqV F (n - 1) P gf lb encs Kp V S W)
    (hKt : ∀ {A B C : World}, Kp A B → Kp B C → Kp A C) (hKb : ∀ (W : World) (l : Nat) (o' : Obj), w.heap.size ≤ l → Kp W (W.putObj l o')) (hKg : ∀ (W W' : World), w.heap.size ≤ W.heap.size → W.grownBy W' none → Kp W W') (hps : ∀ x, (encs x).size = ps.size)
    (hV : ∀ pre, OwnFrom w.heap.size (V pre))
    (I : List α → World → Prop) (Ix : Code → List α → World → Prop) (hI : OwnFrom w.heap.size I) (hIx : ∀ c, OwnFrom w.heap.size (Ix c)) (h0 : I [] w) (Ax : α → Act → World → Prop) (hAx : ∀ x, OwnFrom w.heap.size (Ax x))
    (hassign : ∀ (l : Nat) (pre : List α) (x : α) (W : World) (K : Act → World → Prop), I pre W → V pre x W → (∀ a' W', W.grownBy W' none → Ax x a' W' → K a' W') →
      assign.wpIn (F.inRound l) (n - 1 - 1) P (Exit.then K (fun _ _ _ => False)) { tmps := (ps.zip (encs x)).foldl (fun t (p, v) => t.setIfInBounds p v) a.tmps, defers := [] } W)
    (hbody : ∀ (l : Nat) (pre : List α) (x : α) (a' : Act) (W : World), I pre W → V pre x W → Ax x a' W → body.wpIn (F.inRound l) (n - 1 - 1) P (ownPostG w.heap.size Kp I Ix (pre ++ [x]) W) a' W)
    (hdone : ∀ (D : Nat) (xs : List α) (W : World), w.heap.size ≤ D → S xs → I xs W → W.heap[D]? = some (.deferred (some [])) → Q .normal { a with defers := { target := .collected D, args := #[] } :: a.defers } W)
    (hstop : ∀ (D : Nat) (c : Code) (pre : List α) (W : World), w.heap.size ≤ D → Ix c pre W → W.heap[D]? = some (.deferred (some [])) → c.wpIn F n P Q { a with defers := { target := .collected D, args := #[] } :: a.defers } W) :
    (Code.rangeFunc g ps assign body).wpIn F n P Q a w := by
  refine wpIn_rangeFunc fun fn hfn => ?_
  rw [hro]
  -- the loop's record R at block w.heap.size + 1, the deferred calls' block at w.heap.size
  generalize hR : (fun (st : LoopState) (pe : Option Code) => ({ state := st, pending := pe, fn, tmps := a.tmps, params := ps, assign, body, defers := w.heap.size } : Loop)) = R
  have hRs : ∀ st pe, R st pe = { state := st, pending := pe, fn, tmps := a.tmps, params := ps, assign, body, defers := w.heap.size } := fun st pe => by rw [← hR]
  generalize hW1 : (w.alloc (.deferred (some []))).alloc (.loop (R .ready none)) = W1
  have hL1 : W1.heap[w.heap.size + 1]? = some (.loop (R .ready none)) := by
    have := World.alloc_heap_new (w.alloc (.deferred (some []))) (.loop (R .ready none))
    rw [← hW1]
    rwa [World.size_alloc] at this
  have hD1 : W1.heap[w.heap.size]? = some (.deferred (some [])) := by
    rw [← hW1]
    exact (Below.heap_alloc _ _ _ (by simp)).trans (World.alloc_heap_new w _)
  have hgr : w.grownBy W1 none := by
    rw [← hW1]
    have k1 := World.grownBy_alloc w (.deferred (some [])) none
    have k2 := World.grownBy_alloc (w.alloc (.deferred (some []))) (.loop (R .ready none)) none
    exact ⟨k2.os.trans k1.os, k2.tape.trans k1.tape, k2.output.trans k1.output, Nat.le_trans k1.size k2.size, fun i hi hne => (k2.block i (Nat.lt_of_lt_of_le hi k1.size) hne).trans (k1.block i hi hne)⟩
  have keeps : ∀ {A B : World} {k : Nat} {o : Obj}, A.grownBy B none → A.heap[k]? = some o → B.heap[k]? = some o := fun hAB hk =>
    (hAB.block _ (Array.getElem?_eq_some_iff.1 hk).1 (fun e => by cases e)).trans hk
  refine ⟨w.heap.size + 1, [{ target := .collected w.heap.size, args := #[] }], W1, { target := .fn (.func gf) lb, args := #[.func (.yield (w.heap.size + 1)) #[] #[]] }, W1, gf,
    #[.func (.yield (w.heap.size + 1)) #[] #[]] ++ lb, W1, ?_, ?_, ?_, ?_, fun _ => h1, ?_⟩
  · rw [← hW1, hRs]; exact run_enterLoop_outer _ _ _ _ _
  · simp only [resolve, hg]
    simp [go_sem]
  · intro f' hf'; simp [Target.leads] at hf'; subst hf'; exact hFg
  · simp [invoke, go_sem, eg]
  · refine (hseq W1 hgr (w.heap.size + 1)
      (fun pre W => I pre W ∧ W.heap[w.heap.size + 1]? = some (.loop (R .ready none)) ∧ W.heap[w.heap.size]? = some (.deferred (some [])))
      (fun pre W => ∃ c, Ix c pre W ∧ W.heap[w.heap.size + 1]? = some (.loop (R .done (some c))) ∧ W.heap[w.heap.size]? = some (.deferred (some [])))
      (fun s A B hs hAB => ⟨OwnFrom.stands hI s A B hs.1 hAB, keeps hAB hs.2.1, keeps hAB hs.2.2⟩)
      (fun s A B hs hAB => by
        obtain ⟨c, hc, hl, hk⟩ := hs
        exact ⟨c, OwnFrom.stands (hIx c) s A B hc hAB, keeps hAB hl, keeps hAB hk⟩)
      ?_ ⟨OwnFrom.stands hI [] w W1 h0 hgr, hL1, hD1⟩).mono ?_
    · rintro pre x W0 ⟨hi0, hl0, hk0⟩ hv0
      have hy := run_yield (P := P) (args := encs x) hl0 (by rw [hRs]; exact hps x)
      rw [hRs] at hy
      refine ⟨fn, _, assign, body, hy, roundIn_of_wpIn hfn (hassign _ pre x W0 _ hi0 hv0 ?_)⟩
      intro a' W hW hax
      have hi := OwnFrom.stands hI pre W0 W hi0 hW
      have hv := OwnFrom.stands (hV pre) x W0 W hv0 hW
      have hl := keeps hW hl0
      have hk := keeps hW hk0
      have hlt : w.heap.size + 1 < W.heap.size := (Array.getElem?_eq_some_iff.1 hl).1
      have hKW : Kp W0 W := hKg W0 W (by have := (Array.getElem?_eq_some_iff.1 hl0).1; omega) hW
      refine ⟨_, run_beginRound hl (by rw [hRs]), ?_⟩
      generalize hBz : (Obj.loop { R .ready none with state := .busy }) = busy
      have hl2 : (W.putObj (w.heap.size + 1) busy).heap[w.heap.size + 1]? = some busy := World.putObj_heap_same hlt
      have hk2 : (W.putObj (w.heap.size + 1) busy).heap[w.heap.size]? = some (.deferred (some [])) := (World.putObj_heap_other (by omega)).trans hk
      have hnc : busy.isCells = false := by rw [← hBz]; rfl
      refine wpIn_mono (hbody _ pre x a' _ (hI.putObj _ hi (by omega) hl rfl) ((hV pre).putObj _ hv (by omega) hl rfl) ((hAx x).putObj _ hax (by omega) hl rfl)) ?_
      have fin : ∀ (jump : Option Code) (W3 : World), KeepsFrom w.heap.size (W.putObj (w.heap.size + 1) busy) W3 →
          (Instr.endRound (w.heap.size + 1) jump).run P W3 = .ok (.bool jump.isNone) (W3.putObj (w.heap.size + 1) (.loop (R (if jump.isNone then .ready else .done) jump))) ∧
          W3.heap[w.heap.size + 1]? = some busy ∧
          (W3.putObj (w.heap.size + 1) (.loop (R (if jump.isNone then .ready else .done) jump))).heap[w.heap.size + 1]? = some (.loop (R (if jump.isNone then .ready else .done) jump)) ∧
          (W3.putObj (w.heap.size + 1) (.loop (R (if jump.isNone then .ready else .done) jump))).heap[w.heap.size]? = some (.deferred (some [])) := by
        intro jump W3 hk3
        have hl3 := hk3.same _ _ (by omega) hl2 hnc
        have hrun := run_endRound (P := P) jump (by rw [← hBz] at hl3; exact hl3)
        rw [hRs] at hrun ⊢
        exact ⟨hrun, hl3, World.putObj_heap_same (Array.getElem?_eq_some_iff.1 hl3).1, (World.putObj_heap_other (by omega)).trans (hk3.same _ _ (Nat.le_refl _) hk2 rfl)⟩
      have hleft : ∀ (c : Code) (W3 : World), KeepsFrom w.heap.size (W.putObj (w.heap.size + 1) busy) W3 → Ix c (pre ++ [x]) W3 →
          ∃ v W4, (Instr.endRound (w.heap.size + 1) (some c)).run P W3 = .ok v W4 ∧
            ((Ending.returned v = .returned (.bool true) ∧ (I (pre ++ [x]) W4 ∧ W4.heap[w.heap.size + 1]? = some (.loop (R .ready none)) ∧ W4.heap[w.heap.size]? = some (.deferred (some []))) ∧ Kp W0 W4) ∨
             (Ending.returned v = .returned (.bool false) ∧ ∃ c, Ix c (pre ++ [x]) W4 ∧ W4.heap[w.heap.size + 1]? = some (.loop (R .done (some c))) ∧ W4.heap[w.heap.size]? = some (.deferred (some [])))) := by
        intro c W3 hk3 hi3
        obtain ⟨hr, hl3, hl4, hk4⟩ := fin (some c) W3 hk3
        exact ⟨_, _, hr, .inr ⟨rfl, c, (hIx c).putObj _ hi3 (by omega) hl3 hnc, hl4, hk4⟩⟩
      rintro e a3 W3 hp
      cases e with
      | normal =>
        obtain ⟨hk3, hkp3, hi3⟩ := hp
        obtain ⟨hr, hl3, hl4, hk4⟩ := fin none W3 hk3
        exact ⟨_, _, hr, .inl ⟨rfl, ⟨hI.putObj _ hi3 (by omega) hl3 hnc, hl4, hk4⟩, hKt hKW (hKt (hKt (hKb _ _ _ (by omega)) hkp3) (hKb _ _ _ (by omega)))⟩⟩
      | ret => exact hleft .ret W3 hp.1 hp.2
      | exit id => exact hleft (.exit id) W3 hp.1 hp.2
      | goto t => exact hleft (.goto t) W3 hp.1 hp.2
      | panic ch => exact hp.elim
      | outgrown => exact hp.elim
    · rintro e W2 ⟨⟨v, rfl⟩, (⟨xs, hS, hi, hl, hk⟩ | ⟨pre, c, hi, hl, hk⟩)⟩
      · exact ⟨none, _, by have := run_endLoop (P := P) hl (by rw [hRs]; simp); rw [hRs] at this; exact this, hdone _ xs _ (Nat.le_refl _) hS (hI.putObj _ hi (by omega) hl rfl) ((World.putObj_heap_other (by omega)).trans hk)⟩
      · exact ⟨some c, _, by have := run_endLoop (P := P) hl (by rw [hRs]; simp); rw [hRs] at this; exact this, hstop _ c pre _ (Nat.le_refl _) ((hIx c).putObj _ hi (by omega) hl rfl) ((World.putObj_heap_other (by omega)).trans hk)⟩
end Go.Proofs.YtofdijaipjkfbaaGreatDoor.Fm
