/- BitsBack, walked. -/
import Derived.Test.YtajdgkbeenalkaaDoorBack0
import Derived.Test.YtajdgkbeenalkaaDoorIter2
namespace Go.Proofs.YtajdgkbeenalkaaDoor
open Go.RowKit Go.Shelf

attribute [local go_sem] Oper.semAt_some
attribute [local go_sem ↓] Go.wp_at_zero Go.wp_at_succ

set_option maxRecDepth 100000 in
set_option maxHeartbeats 2000000 in
theorem back_bad (n : Int) (ao : Option Addr) (m cap : Nat) (w : World) (hT : Tab w) (h : n < 0 ∨ 65536 < n) :
    Calls Tryd.prog 6 #[.int .i64 n, .slice ao m cap] w fun e w' => e = .returned (.bool true) ∧ w.grownBy w' none := by
  have H := hide (And.intro hT h)
  refine (callsIn_wide (n := 6)).1 (callsIn_of_wp_marks Tryd.func6 rfl trivial ?_ rfl)
  simp only [Tryd.ntmps6, List.size_toArray, List.length_cons, List.length_nil, Nat.reduceAdd, Nat.reduceSub, Array.replicate_succ, Array.replicate_zero, List.push_toArray, List.append_toArray, List.nil_append, List.cons_append]
  refine wpIn_wide.2 ?_
  clear hT
  go_wp2_with fail
  refine (awake_any w H.out.1).mono ?_
  rintro e w1 ⟨rfl, hg1⟩
  have H1 := hide hg1
  clear hg1
  go_wp2_with fail
  refine (new_bad n w1 h).mono ?_
  rintro e w2 ⟨rfl, rfl⟩
  rcases h with h | h
  · go_wp2
    exact ⟨_, results_tmp rfl _ _ _, rfl, H1.out⟩
  · have h2 : 0 ≤ n := by omega
    go_wp2
    exact ⟨_, results_tmp rfl _ _ _, rfl, H1.out⟩

theorem may_is (n : Nat) (x : Int) : (mayF n x == 0) = (decide (0 ≤ x) && decide (x < (n : Int))) := by
  unfold mayF
  by_cases h : 0 ≤ x ∧ x < (n : Int)
  · rw [if_pos h]; simp [h.1, h.2]
  · rw [if_neg h]
    by_cases h0 : 0 ≤ x
    · have : ¬ x < (n : Int) := fun c => h ⟨h0, c⟩
      simp [h0, this]
    · simp [h0]
theorem putF_has (L : List Bool) (x : Int) : (decide (0 ≤ x) && (putF L x).getD x.toNat false) = (decide (0 ≤ x) && decide (x < (L.length : Int))) := by
  by_cases h : 0 ≤ x ∧ x < (L.length : Int)
  · unfold putF
    rw [if_pos h, getD_set L _ _ (by omega)]
    simp [h.1, h.2]
  · unfold putF
    rw [if_neg h]
    by_cases h0 : 0 ≤ x
    · have : ¬ x < (L.length : Int) := fun c => h ⟨h0, c⟩
      rw [getD_out L _ (by omega)]
      simp [this]
    · simp [h0]

theorem flat_mid (pre : List (Nat × Nat)) (x : Nat × Nat) (xs : List (Nat × Nat)) : (flat (pre ++ x :: xs))[2 * pre.length]? = some x.1 ∧ (flat (pre ++ x :: xs))[2 * pre.length + 1]? = some x.2 := by
  have e : flat (pre ++ x :: xs) = flat pre ++ x.1 :: x.2 :: flat xs := by simp [flat]
  rw [e, ← flat_length]
  constructor
  · rw [List.getElem?_append_right (Nat.le_refl _)]; simp
  · rw [List.getElem?_append_right (by omega)]; simp

/-- What BitsBack knows ahead of its second half. -/
structure BackAt (w0 w : World) (b g bt gt : Nat) (L : List Bool) : Prop where
  s : SetAt w b g L
  t : SetAt w bt gt L
  tab : Tab w
  grown : w0.grownBy w none
theorem BackAt.kept {w0 w w' : World} {b g bt gt : Nat} {L : List Bool} (h : BackAt w0 w b g bt gt L) (hg : w.grownBy w' none) : BackAt w0 w' b g bt gt L :=
  ⟨h.s.kept hg (by simp) (by simp), h.t.kept hg (by simp) (by simp), h.tab.kept hg (by simp), grown_trans h.grown hg⟩

set_option maxRecDepth 100000 in
set_option maxHeartbeats 4000000 in
theorem back_ok (n : Nat) (hn : n ≤ 65536) (ao : Option Addr) (m cap : Nat) (xs : List Int) (w : World) (hT : Tab w) (hxs : xs.length = m) (hat : AtV w ao (xs.map (Value.int .i64))) (hm : m ≤ 4611686018427387904) :
    Calls Tryd.prog 6 #[.int .i64 (n : Int), .slice ao m cap] w fun e w' => e = .returned (.bool true) ∧ w.grownBy w' none := by
  have H := hide (And.intro hT (And.intro hxs hat))
  clear hT hxs hat
  have hn0 : (0 : Int) ≤ (n : Int) := by omega
  have hn1 : (n : Int) ≤ 65536 := by omega
  refine (callsIn_wide (n := 6)).1 (callsIn_of_wp_marks Tryd.func6 rfl trivial ?_ rfl)
  simp only [Tryd.ntmps6, List.size_toArray, List.length_cons, List.length_nil, Nat.reduceAdd, Nat.reduceSub, Array.replicate_succ, Array.replicate_zero, List.push_toArray, List.append_toArray, List.nil_append, List.cons_append]
  refine wpIn_wide.2 ?_
  go_wp2_with fail
  refine (awake_any w H.out.1).mono ?_
  rintro e w1 ⟨rfl, hg1⟩
  have H1 := hide hg1
  clear hg1
  go_wp2_with fail
  refine (new_any n w1 hn (H.out.1.kept H1.out (by simp)).lt).mono ?_
  rintro e w2 ⟨b, g, rfl, hS, hb, hg, hg2⟩
  have H2 := hide (And.intro hS (grown_trans H1.out hg2))
  have hgw : w.heap.size ≤ g := Nat.le_trans H1.out.size hg
  clear hS hg2 H1 hb hg
  go_wp2
  go_loopg [7] m (fun k I wr => ∃ (j : Nat) (L : List Bool), k + j = m ∧ I = .int .i64 (j : Int) ∧ Hid (SetAt wr b g L ∧ w.grownBy wr none ∧ L.length = n))
  case atStart => exact ⟨0, _, by omega, rfl, hide ⟨H2.out.1, H2.out.2, by simp⟩⟩
  case round =>
    obtain ⟨j, L, hkj, rfl, hS⟩ := hrel
    by_cases hk : 0 < gk
    · obtain ⟨_, hxs, hat⟩ := H.out
      have hj : j < xs.length := by omega
      obtain ⟨a, rfl, hca⟩ := hat j (.int .i64 xs[j]) (by simp [hj])
      have hca' := hS.out.2.1.cell hca (by simp)
      generalize xs[j] = x at *
      have h1 : (0 : Int) ≤ (j : Int) := by omega
      have h2 : (j : Int) < (m : Int) := by omega
      have hmay := may_is L.length x
      have hput := putF_has L x
      rw [hS.out.2.2] at hmay hput
      have HM := hide (And.intro hmay (And.intro hput hca))
      clear hat hxs hj hmay hput hca
      by_cases hx0 : 0 ≤ x
      · by_cases hx1 : x < (n : Int)
        · have hxl : x < (L.length : Int) := by rw [hS.out.2.2]; exact hx1
          have e1 : mayF L.length x = 0 := by simp only [mayF]; rw [if_pos ⟨hx0, hxl⟩]
          have e2 : (decide (0 ≤ x) && (putF L x).getD x.toNat false) = true := by rw [HM.out.2.1]; simp; omega
          have hP := put_int b g L x wr hS.out.1
          rw [e1] at hP
          have HP := hide hP
          clear hP e1
          go_wp2_with fail
          refine HP.out.mono ?_
          rintro e w3 ⟨rfl, hS3, hg3⟩
          have G3 : w.grownBy w3 none := grown_then hS.out.2.1 hg3 (fun k e => by cases e; exact Or.inl hgw)
          have hca3 := G3.cell HM.out.2.2 (by simp)
          have hH := has_int b g _ x w3 hS3
          rw [e2] at hH
          have H3 := hide (And.intro hS3 (And.intro G3 hH))
          clear hS3 hg3 G3 hH e2
          go_wp2_with fail
          refine H3.out.2.2.mono ?_
          rintro e w4 ⟨rfl, hg4⟩
          have H4 := hide (And.intro (H3.out.1.kept hg4 (by simp) (by simp)) (And.intro (grown_trans H3.out.2.1 hg4) ((putF_length L x).trans hS.out.2.2)))
          clear hg4 H3
          go_wp2
          go_roundg (gk - 1)
          case measure => omega
          case rel => exact ⟨j + 1, _, by omega, by go_num, H4⟩
        · have hx2 : (n : Int) ≤ x := by omega
          have hxl : ¬ (0 ≤ x ∧ x < (L.length : Int)) := by rw [hS.out.2.2]; omega
          clear hx1
          have e1 : mayF L.length x = 2 := by simp only [mayF]; rw [if_neg hxl]
          have e2 : (decide (0 ≤ x) && (putF L x).getD x.toNat false) = false := by rw [HM.out.2.1]; simp; omega
          have hP := put_int b g L x wr hS.out.1
          rw [e1] at hP
          have HP := hide hP
          clear hP e1
          go_wp2_with fail
          refine HP.out.mono ?_
          rintro e w3 ⟨rfl, hS3, hg3⟩
          have G3 : w.grownBy w3 none := grown_then hS.out.2.1 hg3 (fun k e => by cases e; exact Or.inl hgw)
          have hca3 := G3.cell HM.out.2.2 (by simp)
          have hH := has_int b g _ x w3 hS3
          rw [e2] at hH
          have H3 := hide (And.intro hS3 (And.intro G3 hH))
          clear hS3 hg3 G3 hH e2
          go_wp2_with fail
          refine H3.out.2.2.mono ?_
          rintro e w4 ⟨rfl, hg4⟩
          have H4 := hide (And.intro (H3.out.1.kept hg4 (by simp) (by simp)) (And.intro (grown_trans H3.out.2.1 hg4) ((putF_length L x).trans hS.out.2.2)))
          clear hg4 H3
          go_wp2
          go_roundg (gk - 1)
          case measure => omega
          case rel => exact ⟨j + 1, _, by omega, by go_num, H4⟩
      · have hx2 : x < 0 := by omega
        have hxl : ¬ (0 ≤ x ∧ x < (L.length : Int)) := by omega
        clear hx0
        have e1 : mayF L.length x = 2 := by simp only [mayF]; rw [if_neg hxl]
        have e2 : (decide (0 ≤ x) && (putF L x).getD x.toNat false) = false := by rw [HM.out.2.1]; simp; omega
        have hP := put_int b g L x wr hS.out.1
        rw [e1] at hP
        have HP := hide hP
        clear hP e1
        go_wp2_with fail
        refine HP.out.mono ?_
        rintro e w3 ⟨rfl, hS3, hg3⟩
        have G3 : w.grownBy w3 none := grown_then hS.out.2.1 hg3 (fun k e => by cases e; exact Or.inl hgw)
        have hca3 := G3.cell HM.out.2.2 (by simp)
        have hH := has_int b g _ x w3 hS3
        rw [e2] at hH
        have H3 := hide (And.intro hS3 (And.intro G3 hH))
        clear hS3 hg3 G3 hH e2
        go_wp2_with fail
        refine H3.out.2.2.mono ?_
        rintro e w4 ⟨rfl, hg4⟩
        have H4 := hide (And.intro (H3.out.1.kept hg4 (by simp) (by simp)) (And.intro (grown_trans H3.out.2.1 hg4) ((putF_length L x).trans hS.out.2.2)))
        clear hg4 H3
        go_wp2
        go_roundg (gk - 1)
        case measure => omega
        case rel => exact ⟨j + 1, _, by omega, by go_num, H4⟩
    · have hj : j = m := by omega
      subst hj
      have hLs : L.length ≤ 65536 := by rw [hS.out.2.2]; exact hn
      have hLn := hide hS.out.2.2
      go_wp2_with fail
      refine (bytes_any b g L wr hS.out.1).mono ?_
      obtain ⟨q8, hq8⟩ : ∃ q8, (L.length + 7) / 8 = q8 := ⟨_, rfl⟩
      rw [hq8]
      rintro e w3 ⟨rfl, hrow, hg3⟩
      have HQ8 := hide hq8
      clear hq8
      have hbt := bytesN_vals L
      have H3 := hide (And.intro (atV_row hrow) (And.intro (hS.out.1.kept hg3 (by simp) (by simp)) (grown_trans hS.out.2.1 hg3)))
      clear hrow hg3
      rw [← hbt] at H3
      clear hbt
      go_wp2_with fail
      have hof := of_any n hn (some ⟨wr.heap.size, 0, none⟩) q8 q8 (bytesN L) w3 (H.out.1.kept H3.out.2.2 (by simp)).lt (by rw [bytesN_length]; exact HQ8.out) (by rw [← HQ8.out, hLn.out]) (bytesN_lt L) H3.out.1 (fun i hi => by rw [bytesN_bit, getD_out L i (by have := hLn.out; omega)])
      refine hof.mono ?_
      clear hof
      rintro e w4 ⟨bt, gt, rfl, hT4, hbt, hgt, hg4⟩
      rw [show ofL (bytesN L) n = L by rw [← hLn.out]; exact ofL_bytes L] at hT4
      have G4 := grown_trans H3.out.2.2 hg4
      have HB4 : Hid (BackAt w w4 b g bt gt L) := ⟨H3.out.2.1.kept hg4 (by simp) (by simp), hT4, H.out.1.kept G4 (by simp), G4⟩
      clear hT4 hg4 H3 G4 hbt hgt
      go_wp2_with fail
      have hs1 := same_any b g bt gt L L w4 HB4.out.s HB4.out.t
      rw [decide_eq_true rfl] at hs1
      refine hs1.mono ?_
      clear hs1
      rintro e w5 ⟨rfl, hg5⟩
      have HB5 := hide (HB4.out.kept hg5)
      clear hg5 HB4
      go_wp2_with fail
      have hs1 := same_any bt gt b g L L w5 HB5.out.t HB5.out.s
      rw [decide_eq_true rfl] at hs1
      refine hs1.mono ?_
      clear hs1
      rintro e w6 ⟨rfl, hg6⟩
      have HB := hide (HB5.out.kept hg6)
      clear hg6 HB5 hS
      by_cases hmax : n < 65536
      · have hmi : (n : Int) < 65536 := by omega
        have hN := new_any (n + 1) w6 (by omega) HB.out.tab.lt
        rw [show ((n + 1 : Nat) : Int) = (n : Int) + 1 by omega] at hN
        have HN := hide hN
        clear hN
        go_wp2_with fail
        refine HN.out.mono ?_
        rintro e w7 ⟨bu, gu, rfl, hU, hbu, hgu, hg7⟩
        have hB7 := HB.out.kept hg7
        have hGx : w7.grownBy (w7.alloc (.cells #[.pointer (some ⟨bu, 0, none⟩)] 24)) none := World.grownBy_alloc w7 _ none
        have hbx := Boxed.new w7 24 (.pointer (some ⟨bu, 0, none⟩))
        have hB8 := hB7.kept hGx
        have hU8 := hU.kept hGx (by simp) (by simp)
        have hlt8 : bu < (w7.alloc (.cells #[.pointer (some ⟨bu, 0, none⟩)] 24)).heap.size ∧ gu < (w7.alloc (.cells #[.pointer (some ⟨bu, 0, none⟩)] 24)).heap.size ∧ w7.heap.size < (w7.alloc (.cells #[.pointer (some ⟨bu, 0, none⟩)] 24)).heap.size := by
          have := hU.lt; simp; omega
        have hgw6 : w.heap.size ≤ gu := Nat.le_trans HB.out.grown.size hgu
        have hgu0 : gu ≠ 0 := by have := HB.out.tab.lt; omega
        have hbug : w7.heap.size ≠ gu := by have := hU.lt; omega
        have hsb : b ≠ gu ∧ g ≠ gu ∧ bt ≠ gu ∧ gt ≠ gu := by have h1 := HB.out.s.lt; have h2 := HB.out.t.lt; omega
        have hsl := hB8.s.lt
        have htl := hB8.t.lt
        go_wp2_with fail
        generalize hw8 : w7.alloc (.cells #[.pointer (some ⟨bu, 0, none⟩)] 24) = w8 at *
        have H8 := hide (And.intro hB8 (And.intro hU8 hbx))
        clear hw8 hB8 hU8 hbx hB7 hg7 hU HN hGx
        generalize w7.heap.size = bx at *
        refine (all_fresh b g L w8 H8.out.1.s H8.out.1.tab).mono ?_
        rintro e w9 ⟨BB, b', g', rfl, hBx, hC, hn1', hn2', hn3', hg9⟩
        have hB9 := H8.out.1.kept hg9
        have hU9 := H8.out.2.1.kept hg9 (by simp) (by simp)
        have hx9 := H8.out.2.2.kept hg9 (by simp)
        have hsz9 := hg9.size
        have hcl := hC.lt
        have hBl := hBx.lt
        have H9u := hide (And.intro hB9 (And.intro hU9 (And.intro hx9 (And.intro hBx hC))))
        clear hB9 hU9 hx9 hBx hC hg9 H8
        go_wp2
        refine (wpIn_wide (n := 6)).1 (wpIn_rangeFunc_ownG (w := w9) rfl (by decide) (gf := 55) (lb := #[.pointer (some ⟨BB, 0, none⟩)]) rfl trivial (enters_of Tryd.func55 (by kernel_rfl) rfl)
          (all_stops_gen (BelowBut w9.heap.size gu) (BelowBut w9.heap.size gu w9) 5 (by decide) BB w9.heap.size (some ⟨b', 0, none⟩) L w9
            (fun W hW => ⟨(hW.block BB hBl (by omega)).trans H9u.out.2.2.2.1, hBl, Or.inl ⟨b', g', rfl, H9u.out.2.2.2.2.but hW hcl.1 hcl.2 (by omega) (by omega), hcl.1, hcl.2⟩, H9u.out.1.tab.but hW (by omega) hgu0, by omega⟩)
            (fun W W' h h' => h'.trans h) (fun W h => ⟨h.os, h.tape, h.output, h.size, fun k hk _ => h.block k hk⟩) hLs)
          (fun h k => h.trans k) (BelowBut.putObj (Nat.le_refl _)) (Below.refl _ _) (fun _ => rfl)
          (fun pre W => SetAt W bu gu (putAll (List.replicate (n + 1) false) pre) ∧ BelowBut w9.heap.size gu w9 W)
          (fun _ _ _ => False)
          (fun s A A' row hs hg hr => ⟨hs.1.kept hg (fun e => by have := (hr _ e).1; omega) (fun e => by have := (hr _ e).1; omega), hs.2.trans (BelowBut.of hg hs.2.size (fun k e => Or.inr (hr k e).1))⟩)
          (fun _ _ _ _ _ hs _ _ => hs)
          ⟨H9u.out.2.1, BelowBut.refl _ _ _⟩
          (fun x => { tmps := #[Value.int IntKind.i64 ↑n, Value.slice ao j cap, undef, undef, u4, Value.pointer (some { block := b, off := 0 }), Value.int IntKind.i64 0, Value.int IntKind.i64 ↑j, u8, u9, Value.pointer (some { block := bt, off := 0 }), Value.int IntKind.i64 0, Value.pointer (some { block := bx, off := 0 }), Value.int IntKind.i64 0, Value.int IntKind.i64 ↑x, undef, undef, undef, undef, undef, undef, undef, Value.bool true, Value.bool false, Value.tuple #[Value.pointer (some { block := b, off := 0 }), Value.int IntKind.i64 0], Value.int IntKind.i64 ↑n, Value.tuple #[Value.pointer (some { block := b, off := 0 }), Value.int IntKind.i64 0], Value.pointer (some { block := b, off := 0 }), Value.int IntKind.i64 0, Value.int IntKind.i64 ↑n, Value.bool (decide ((n : Int) < 0)), Value.bool (decide ((n : Int) < 0)), Value.int IntKind.i64 ↑n, Value.bool (decide ((65536 : Int) < (n : Int))), Value.bool (decide ((n : Int) < 0) || decide ((65536 : Int) < (n : Int))), undef, undef, undef, undef, undef, undef, Value.int IntKind.i64 0, Value.bool false, Value.bool false, Value.pointer (some { block := b, off := 0 }), Value.bool false, Value.bool false, Value.int IntKind.i64 ↑j, Value.slice ao j cap, Value.int IntKind.i64 ↑j, Value.bool false, u51, u52, u53, u54, u55, u56, u57, u58, u59, u60, u61, u62, u63, u64, u65, u66, u67, u68, u69, u70, u71, u72, u73, u74, u75, u76, u77, u78, u79, u80, u81, u82, u83, u84, u85, Value.tuple #[Value.pointer (some { block := bt, off := 0 }), Value.int IntKind.i64 0], Value.int IntKind.i64 ↑n, Value.pointer (some { block := b, off := 0 }), Value.slice (some { block := wr.heap.size, off := 0 }) q8 q8, Value.tuple #[Value.pointer (some { block := bt, off := 0 }), Value.int IntKind.i64 0], Value.pointer (some { block := bt, off := 0 }), Value.int IntKind.i64 0, Value.int IntKind.i64 0, Value.bool false, Value.bool false, Value.pointer (some { block := b, off := 0 }), Value.pointer (some { block := bt, off := 0 }), Value.bool true, Value.bool false, Value.bool false, Value.bool false, Value.pointer (some { block := bt, off := 0 }), Value.pointer (some { block := b, off := 0 }), Value.bool true, Value.bool false, Value.bool false, Value.int IntKind.i64 ↑n, Value.bool true, Value.tuple #[Value.pointer (some { block := bu, off := 0 }), Value.int IntKind.i64 0], Value.int IntKind.i64 ↑n, Value.int IntKind.i64 (↑n + 1), Value.tuple #[Value.pointer (some { block := bu, off := 0 }), Value.int IntKind.i64 0], Value.pointer (some { block := bu, off := 0 }), Value.int IntKind.i64 0, Value.pointer (some { block := b, off := 0 }), Value.func (Fn.func 55) #[] #[Value.pointer (some { block := BB, off := 0 })], Value.int IntKind.i64 ↑x, undef, undef, undef, undef, undef, undef, undef, undef, undef, undef, undef, undef, undef, undef, undef, undef, undef, undef, undef, undef, undef, undef, undef, undef, undef, undef, undef, undef, undef, undef, undef, undef, undef, undef, undef, undef, undef, undef, undef, undef, undef, undef, undef, undef, undef, undef, undef, undef, undef, undef, undef, undef, undef, undef, undef, undef, undef, undef, undef, undef, undef, undef, undef, undef, undef, undef, undef, undef, undef, undef, undef, undef, undef, undef, undef, undef, undef, undef, undef, undef, undef, undef, undef, undef, undef, undef, undef, undef, undef, undef, undef, undef, undef, undef, undef, undef, undef, undef, undef, undef, undef, undef, undef, undef, undef, undef, undef, undef, undef, undef, undef, undef, undef, undef, undef, undef, undef, undef, undef, undef, undef, undef, undef, undef, undef, undef, undef, undef, undef, undef, undef, undef, undef, undef, undef, undef, undef, undef, undef, undef], defers := [] }) ?assign ?body ?done ?stop)
        case assign =>
          intro l x W K hK
          gi_wp2
          exact hK
        case body =>
          rintro l pre x W ⟨hSu, hBw⟩ hlt
          have hcx : W.cell? ⟨bx, 0, none⟩ = some (.pointer (some ⟨bu, 0, none⟩)) := Boxed.cell ((hBw.block bx (by omega) hbug).trans H9u.out.2.2.1)
          have HS := hide hSu
          have HBw := hide hBw
          clear hSu hBw
          gi_wp2_with fail
          refine ⟨trivial, ?_⟩
          refine (CallsIn.inRound l (callsIn_wide.2 (put_int bu gu _ (x : Int) W HS.out))).mono ?_
          rintro e W2 ⟨rfl, hS2, hg2⟩
          have hN2 : SetAt W2 bu gu (putAll (List.replicate (n + 1) false) (pre ++ [x])) ∧ BelowBut w9.heap.size gu w9 W2 := by
            refine ⟨by rw [putAll_snoc]; exact hS2, HBw.out.trans (BelowBut.of hg2 HBw.out.size (fun k e => by cases e; exact Or.inl rfl))⟩
          have HN2 := hide (And.intro (KeepsFrom.of_grownBy (B := w9.heap.size) hg2 (fun j e => by cases e; omega)) (And.intro (BelowBut.of (B := w9.heap.size) (x := gu) hg2 HBw.out.size (fun k e => by cases e; exact Or.inl rfl)) hN2))
          clear hS2 hg2 hN2
          gi_wp2
          exact HN2.out
        case done =>
          rintro D ys W hD rfl ⟨hSu, hBw⟩ hK
          have hL1 : (List.replicate (n + 1) false).length = L.length + 1 := by simp [hLn.out]
          rw [show List.replicate (n + 1) false = List.replicate (L.length + 1) false by rw [hLn.out], putAll_all] at hSu
          have hcx : W.cell? ⟨bx, 0, none⟩ = some (.pointer (some ⟨bu, 0, none⟩)) := Boxed.cell ((hBw.block bx (by omega) hbug).trans H9u.out.2.2.1)
          have hGW : w.grownBy W none := ⟨hBw.os.trans H9u.out.1.grown.os, hBw.tape.trans H9u.out.1.grown.tape, hBw.output.trans H9u.out.1.grown.output, Nat.le_trans H9u.out.1.grown.size hBw.size, fun k hk _ => (hBw.block k (by have := H9u.out.1.grown.size; omega) (by omega)).trans (H9u.out.1.grown.block k hk (by simp))⟩
          have HBW : Hid (BackAt w W b g bt gt L) := ⟨H9u.out.1.s.but hBw (by omega) (by omega) hsb.1 hsb.2.1, H9u.out.1.t.but hBw (by omega) (by omega) hsb.2.2.1 hsb.2.2.2, H9u.out.1.tab.but hBw (by omega) hgu0, hGW⟩
          have HU := hide (And.intro hSu (And.intro hcx hK))
          have hDl := row_lt hK
          have hDw : w.heap.size ≤ D := by have := H9u.out.1.grown.size; omega
          clear hSu hBw hK hGW H9u HB hL1
          have hcu := count_any bu gu _ W HU.out.1
          rw [cntL_app] at hcu
          have HCU := hide hcu
          clear hcu
          have hcx := HU.out.2.1
          go_wp2_with fail
          refine HCU.out.mono ?_
          rintro e w11 ⟨rfl, rfl⟩
          go_wp2_with fail
          refine (count_any b g L _ HBW.out.s).mono ?_
          rintro e w11 ⟨rfl, rfl⟩
          clear HCU
          go_wp2_with fail
          have hs1 := same_any b g bu gu L (L ++ [false]) _ HBW.out.s HU.out.1
          rw [decide_eq_false (fun h : L = L ++ [false] => by have := congrArg List.length h; simp at this)] at hs1
          refine hs1.mono ?_
          clear hs1
          rintro e w12 ⟨rfl, hg12⟩
          have HBW2 := hide (HBW.out.kept hg12)
          have HU2 := hide (And.intro (HU.out.1.kept hg12 (by simp) (by simp)) (And.intro (hg12.cell HU.out.2.1 (by simp)) ((hg12.block D hDl (by simp)).trans HU.out.2.2)))
          have hDl2 : D < w12.heap.size := Nat.lt_of_lt_of_le hDl hg12.size
          clear hg12 HBW HU hcx hDl
          have hcx := HU2.out.2.1
          go_wp2_with fail
          have hs1 := same_any bu gu b g (L ++ [false]) L _ HU2.out.1 HBW2.out.s
          rw [decide_eq_false (fun h : L ++ [false] = L => by have := congrArg List.length h; simp at this)] at hs1
          refine hs1.mono ?_
          clear hs1
          rintro e w13 ⟨rfl, hg13⟩
          have HB := hide (HBW2.out.kept hg13)
          have HK := hide ((hg13.block D hDl2 (by simp)).trans HU2.out.2.2)
          have hDl : D < w13.heap.size := Nat.lt_of_lt_of_le hDl2 hg13.size
          clear hg13 HBW2 HU2 hcx hDl2
          go_wp2_with fail
          refine (all_any _ L _ (Or.inl ⟨bt, gt, rfl, HB.out.t⟩) HB.out.tab hLs).mono ?_
          rintro e w6 ⟨v6, rfl, hV6, hg6⟩
          have H6 := hide (And.intro hV6 (And.intro (HB.out.kept hg6) hg6))
          clear hV6 hg6
          clear hmi hmax hn hn1
          go_wp2_with fail
          refine (told_any v6 L w6 H6.out.1).mono ?_
          rintro e w7 ⟨s7, rfl, hown7, hg7⟩
          obtain ⟨a1, c1, rfl, _, _, _, hat1, _, _⟩ := own_at hown7
          have H7 := hide (And.intro hat1 (And.intro (H6.out.2.1.kept hg7) (grown_trans H6.out.2.2 hg7)))
          clear hat1 hown7 hg7 H6
          go_wp2_with fail
          refine (gaps_any _ L _ (Or.inl ⟨bt, gt, rfl, H7.out.2.1.t⟩) H7.out.2.1.tab hLs).mono ?_
          rintro e w8 ⟨v8, rfl, hV8, hg8⟩
          have H8 := hide (And.intro hV8 (And.intro (H7.out.1.grown hg8) (And.intro (H7.out.2.1.kept hg8) (grown_trans H7.out.2.2 hg8))))
          clear hV8 hg8 H7
          go_wp2_with fail
          refine (pairs_any v8 L w8 H8.out.1).mono ?_
          rintro e w9 ⟨s9, rfl, hown9, hg9⟩
          obtain ⟨a2, c2, rfl, _, _, _, hat2, _, _⟩ := own_at hown9
          have H9 := hide (And.intro (H8.out.2.1.grown hg9) (And.intro hat2 (And.intro (H8.out.2.2.1.kept hg9) (grown_trans H8.out.2.2.2 hg9))))
          clear hat2 hown9 hg9 H8
          have hcl := allL_len L
          have hcnt := count_any b g L w9 H9.out.2.2.1.s
          rw [← hcl] at hcnt
          have HC := hide hcnt
          clear hcnt hcl
          go_wp2_with fail
          refine HC.out.mono ?_
          rintro e w10 ⟨rfl, rfl⟩
          clear HC
          have hli := allL_length L
          have hlo : (flat (gapsL L)).length ≤ 131072 := by rw [flat_length]; have := gapsL_length L; omega
          go_wp2
          go_loopg [19, 20, 21] (L.length + 1) (fun k A K G wr => ∃ (a : Nat) (pre rest : List (Nat × Nat)), k + a = L.length + 1 ∧ a ≤ L.length ∧ A = .int .i64 (a : Int) ∧ K = .int .i64 ((allTo L a).length : Int) ∧ G = .int .i64 ((2 * pre.length : Nat) : Int) ∧ Hid (gapsL L = pre ++ rest) ∧ Hid (GapsR L a rest) ∧ w10.grownBy wr none)
          case atStart => exact ⟨0, [], gapsL L, by omega, by omega, rfl, rfl, rfl, hide rfl, hide (gapsL_is L), grown_refl _ _⟩
          case round =>
            obtain ⟨a, pre, rest, hka, haL, rfl, rfl, rfl, hpr, hgr, hgw⟩ := hrel
            obtain ⟨hA1, hA2, hBk, hBg⟩ := H9.out
            have hB1 := hA1.grown hgw
            have hB2 := hA2.grown hgw
            clear hA1 hA2
            have hkb : (allTo L a).length ≤ 65536 := by have := (allTo_prefix L a L.length haL).length_le; have h2 := allL_length L; unfold allL at h2; omega
            have hpb : pre.length ≤ 65536 := by have := gapsL_length L; rw [hpr.out] at this; simp at this; omega
            have hfl : (flat (gapsL L)).length = 2 * pre.length + 2 * rest.length := by rw [flat_length, hpr.out]; simp; omega
            have hLen := hLn.out
            by_cases ha : a < L.length
            · have hai : (a : Int) < (n : Int) := by omega
              cases hv : L.getD a false with
              | false =>
                obtain ⟨e, xs', rfl, hae, heL, hxs', hgap, heL2⟩ := hgr.out.at ha hv
                have hfa : (flat (gapsL L))[2 * pre.length]? = some a ∧ (flat (gapsL L))[2 * pre.length + 1]? = some (e - a) := by rw [hpr.out]; exact flat_mid pre (a, e - a) xs'
                obtain ⟨d2, rfl, hc2⟩ := hB2 (2 * pre.length) (.int .i64 (a : Int)) (by simp only [intsV, List.getElem?_map, hfa.1]; rfl)
                obtain ⟨d2', hd2', hc3⟩ := hB2 (2 * pre.length + 1) (.int .i64 ((e - a : Nat) : Int)) (by simp only [intsV, List.getElem?_map, hfa.2]; rfl)
                cases hd2'
                have hskip : allTo L e = allTo L a := allTo_skip L a e (by omega) (fun j h1 h2 => by rw [hgap j h1 h2]; simp)
                have HR : Hid (gapsL L = (pre ++ [(a, e - a)]) ++ xs') := by show _ = _; rw [hpr.out]; simp
                have g1 : (((2 * pre.length : Nat) : Int) : Int) < (((flat (gapsL L)).length : Nat) : Int) := by rw [hfl]; simp; omega
                have g2 : ((2 * pre.length : Nat) : Int) + 1 = ((2 * pre.length + 1 : Nat) : Int) := by omega
                have g2w : IntKind.i64.wrap (((2 * pre.length : Nat) : Int) + 1) = ((2 * pre.length + 1 : Nat) : Int) := by rw [wrap_i64_small _ (by omega) (by omega)]; omega
                have g3 : ((2 * pre.length + 1 : Nat) : Int) < (((flat (gapsL L)).length : Nat) : Int) := by rw [hfl]; simp; omega
                have g4 : (1 : Int) ≤ ((e - a : Nat) : Int) := by omega
                have g5 : (a : Int) + ((e - a : Nat) : Int) = (e : Int) := by omega
                have g5w : IntKind.i64.wrap ((a : Int) + ((e - a : Nat) : Int)) = (e : Int) := by rw [wrap_i64_small _ (by omega) (by omega)]; omega
                have g6 : ((2 * pre.length : Nat) : Int) + 2 = ((2 * (pre ++ [(a, e - a)]).length : Nat) : Int) := by simp; omega
                have g0 : (0 : Int) ≤ ((2 * pre.length : Nat) : Int) := by omega
                have g4d : decide (((e - a : Nat) : Int) < 1) = false := decide_eq_false (by omega)
                have g4n : ¬ (e - a) = 0 := by omega
                have g4m : decide ((e - a) = 0) = false := decide_eq_false g4n
                have wP1 : IntKind.i64.wrap ((2 * pre.length + 1 : Nat) : Int) = ((2 * pre.length + 1 : Nat) : Int) := wrap_i64_small _ (by omega) (by omega)
                have wE : IntKind.i64.wrap (e : Int) = (e : Int) := wrap_i64_small _ (by omega) (by omega)
                have g0' : (0 : Int) ≤ ((2 * pre.length + 1 : Nat) : Int) := by omega
                have hnext : Hid (wr.drew.grownBy wr.drew none) := grown_refl _ _
                have HIN : ((allL L).length ≤ (allTo L a).length) ∨ (∃ x, (allTo L a).length < (allL L).length ∧ (allL L)[(allTo L a).length]? = some x ∧ e ≤ x) := by
                  by_cases hk : (allTo L a).length < (allL L).length
                  · right
                    obtain ⟨x, hx⟩ : ∃ x, (allL L)[(allTo L a).length]? = some x := ⟨_, List.getElem?_eq_getElem hk⟩
                    refine ⟨x, hk, hx, ?_⟩
                    obtain ⟨y1, y2, y3⟩ := all_beyond L a x hx
                    by_cases hxe : x < e
                    · have := hgap x y1 hxe; rw [this] at y3; cases y3
                    · omega
                  · left; omega
                have HOUT : (xs' = []) ∨ (∃ x ys, xs' = x :: ys ∧ e < x.1) := by
                  cases xs' with
                  | nil => exact Or.inl rfl
                  | cons x ys => exact Or.inr ⟨x, ys, rfl, hxs'.beyond heL2⟩
                have HXS := hide hxs'
                have hrl : xs'.length + 1 = ((a, e - a) :: xs').length := rfl
                have hli2 : (allL L).length ≤ 65536 := by omega
                have hlo2 : (((flat (gapsL L)).length : Nat) : Int) ≤ 131072 := by omega
                rcases HIN with HIN | HIN
                · rcases HOUT with HOUT | HOUT
                  · have k1 : ((allL L).length : Int) ≤ ((allTo L a).length : Int) := by omega
                    have k1d : decide (((allTo L a).length : Int) < ((allL L).length : Int)) = false := decide_eq_false (by omega)
                    have k1n : decide ((allTo L a).length < (allL L).length) = false := decide_eq_false (by omega)
                    have k1m : (allL L).length ≤ (allTo L a).length := by omega
                    clear HIN
                    subst HOUT
                    have o1 : (((flat (gapsL L)).length : Nat) : Int) ≤ ((2 * (pre ++ [(a, e - a)]).length : Nat) : Int) := by rw [hfl]; simp; omega
                    have o1d : decide (((2 * (pre ++ [(a, e - a)]).length : Nat) : Int) < (((flat (gapsL L)).length : Nat) : Int)) = false := decide_eq_false (by omega)
                    have HREL : Hid (∀ wx, wr.grownBy wx none → ∃ (a' : Nat) (pre' rest' : List (Nat × Nat)), (L.length + 1 - e) + a' = L.length + 1 ∧ a' ≤ L.length ∧ Value.int .i64 (e : Int) = .int .i64 (a' : Int) ∧ Value.int .i64 ((allTo L a).length : Int) = .int .i64 ((allTo L a').length : Int) ∧ Value.int .i64 ((2 * (pre ++ [(a, e - a)]).length : Nat) : Int) = .int .i64 ((2 * pre'.length : Nat) : Int) ∧ Hid (gapsL L = pre' ++ rest') ∧ Hid (GapsR L a' rest') ∧ w10.grownBy wx none) := fun wx hwx => ⟨e, pre ++ [(a, e - a)], _, by omega, heL, rfl, by rw [hskip], rfl, HR, HXS, grown_trans hgw hwx⟩
                    have HM : Hid (L.length + 1 - e < gk) := by show _ < _; omega
                    clear hskip HR HXS hgap heL2 hxs' hgr hpr hfa hB1 hB2 hBk hBg hgw hfl hnext hrl hv
                    generalize 2 * (pre ++ [(a, e - a)]).length = P2 at *
                    generalize 2 * pre.length + 1 = P1 at *
                    generalize 2 * pre.length = P0 at *
                    generalize (flat (gapsL L)).length = lo at *
                    generalize (allL L).length = li at *
                    generalize (allTo L a).length = kk at *
                    generalize e - a = df at *
                    go_wp2_with fail
                    go_quiet (fail)
                    go_wp2
                    go_roundg (L.length + 1 - e)
                    case measure => exact HM.out
                    case rel => exact HREL.out _ (grown_drewN _ _ _)

                  · have k1 : ((allL L).length : Int) ≤ ((allTo L a).length : Int) := by omega
                    have k1d : decide (((allTo L a).length : Int) < ((allL L).length : Int)) = false := decide_eq_false (by omega)
                    have k1n : decide ((allTo L a).length < (allL L).length) = false := decide_eq_false (by omega)
                    have k1m : (allL L).length ≤ (allTo L a).length := by omega
                    clear HIN
                    obtain ⟨y, ys, rfl, hy⟩ := HOUT
                    have hfy : (flat (gapsL L))[2 * (pre ++ [(a, e - a)]).length]? = some y.1 := by rw [HR.out]; exact (flat_mid _ y ys).1
                    obtain ⟨d3, hd3, hc4⟩ := hB2 (2 * (pre ++ [(a, e - a)]).length) (.int .i64 (y.1 : Int)) (by simp only [intsV, List.getElem?_map, hfy]; rfl)
                    cases hd3
                    have o1 : ((2 * (pre ++ [(a, e - a)]).length : Nat) : Int) < (((flat (gapsL L)).length : Nat) : Int) := by rw [hfl]; simp; omega
                    have o0 : (0 : Int) ≤ ((2 * (pre ++ [(a, e - a)]).length : Nat) : Int) := by omega
                    have o2 : ((y.1 : Int) == (e : Int)) = false := by simp; omega
                    have o3 : ¬ (y.1 : Int) = (e : Int) := by omega
                    clear hfy hy
                    generalize y.1 = y1 at *
                    have HREL : Hid (∀ wx, wr.grownBy wx none → ∃ (a' : Nat) (pre' rest' : List (Nat × Nat)), (L.length + 1 - e) + a' = L.length + 1 ∧ a' ≤ L.length ∧ Value.int .i64 (e : Int) = .int .i64 (a' : Int) ∧ Value.int .i64 ((allTo L a).length : Int) = .int .i64 ((allTo L a').length : Int) ∧ Value.int .i64 ((2 * (pre ++ [(a, e - a)]).length : Nat) : Int) = .int .i64 ((2 * pre'.length : Nat) : Int) ∧ Hid (gapsL L = pre' ++ rest') ∧ Hid (GapsR L a' rest') ∧ w10.grownBy wx none) := fun wx hwx => ⟨e, pre ++ [(a, e - a)], _, by omega, heL, rfl, by rw [hskip], rfl, HR, HXS, grown_trans hgw hwx⟩
                    have HM : Hid (L.length + 1 - e < gk) := by show _ < _; omega
                    clear hskip HR HXS hgap heL2 hxs' hgr hpr hfa hB1 hB2 hBk hBg hgw hfl hnext hrl hv
                    generalize 2 * (pre ++ [(a, e - a)]).length = P2 at *
                    generalize 2 * pre.length + 1 = P1 at *
                    generalize 2 * pre.length = P0 at *
                    generalize (flat (gapsL L)).length = lo at *
                    generalize (allL L).length = li at *
                    generalize (allTo L a).length = kk at *
                    generalize e - a = df at *
                    go_wp2_with fail
                    go_quiet (fail)
                    go_wp2
                    go_roundg (L.length + 1 - e)
                    case measure => exact HM.out
                    case rel => exact HREL.out _ (grown_drewN _ _ _)

                · rcases HOUT with HOUT | HOUT
                  · obtain ⟨x, hk1, hx, hex⟩ := HIN
                    obtain ⟨d1, rfl, hc1⟩ := hB1 (allTo L a).length (.int .i64 (x : Int)) (by simp only [intsV, List.getElem?_map, hx]; rfl)
                    have k1 : ((allTo L a).length : Int) < ((allL L).length : Int) := by omega
                    have k2 : (e : Int) ≤ (x : Int) := by omega
                    have k0 : (0 : Int) ≤ ((allTo L a).length : Int) := by omega
                    clear hx hex
                    subst HOUT
                    have o1 : (((flat (gapsL L)).length : Nat) : Int) ≤ ((2 * (pre ++ [(a, e - a)]).length : Nat) : Int) := by rw [hfl]; simp; omega
                    have o1d : decide (((2 * (pre ++ [(a, e - a)]).length : Nat) : Int) < (((flat (gapsL L)).length : Nat) : Int)) = false := decide_eq_false (by omega)
                    have HREL : Hid (∀ wx, wr.grownBy wx none → ∃ (a' : Nat) (pre' rest' : List (Nat × Nat)), (L.length + 1 - e) + a' = L.length + 1 ∧ a' ≤ L.length ∧ Value.int .i64 (e : Int) = .int .i64 (a' : Int) ∧ Value.int .i64 ((allTo L a).length : Int) = .int .i64 ((allTo L a').length : Int) ∧ Value.int .i64 ((2 * (pre ++ [(a, e - a)]).length : Nat) : Int) = .int .i64 ((2 * pre'.length : Nat) : Int) ∧ Hid (gapsL L = pre' ++ rest') ∧ Hid (GapsR L a' rest') ∧ w10.grownBy wx none) := fun wx hwx => ⟨e, pre ++ [(a, e - a)], _, by omega, heL, rfl, by rw [hskip], rfl, HR, HXS, grown_trans hgw hwx⟩
                    have HM : Hid (L.length + 1 - e < gk) := by show _ < _; omega
                    clear hskip HR HXS hgap heL2 hxs' hgr hpr hfa hB1 hB2 hBk hBg hgw hfl hnext hrl hv
                    generalize 2 * (pre ++ [(a, e - a)]).length = P2 at *
                    generalize 2 * pre.length + 1 = P1 at *
                    generalize 2 * pre.length = P0 at *
                    generalize (flat (gapsL L)).length = lo at *
                    generalize (allL L).length = li at *
                    generalize (allTo L a).length = kk at *
                    generalize e - a = df at *
                    go_wp2_with fail
                    go_quiet (fail)
                    go_wp2
                    go_roundg (L.length + 1 - e)
                    case measure => exact HM.out
                    case rel => exact HREL.out _ (grown_drewN _ _ _)

                  · obtain ⟨x, hk1, hx, hex⟩ := HIN
                    obtain ⟨d1, rfl, hc1⟩ := hB1 (allTo L a).length (.int .i64 (x : Int)) (by simp only [intsV, List.getElem?_map, hx]; rfl)
                    have k1 : ((allTo L a).length : Int) < ((allL L).length : Int) := by omega
                    have k2 : (e : Int) ≤ (x : Int) := by omega
                    have k0 : (0 : Int) ≤ ((allTo L a).length : Int) := by omega
                    clear hx hex
                    obtain ⟨y, ys, rfl, hy⟩ := HOUT
                    have hfy : (flat (gapsL L))[2 * (pre ++ [(a, e - a)]).length]? = some y.1 := by rw [HR.out]; exact (flat_mid _ y ys).1
                    obtain ⟨d3, hd3, hc4⟩ := hB2 (2 * (pre ++ [(a, e - a)]).length) (.int .i64 (y.1 : Int)) (by simp only [intsV, List.getElem?_map, hfy]; rfl)
                    cases hd3
                    have o1 : ((2 * (pre ++ [(a, e - a)]).length : Nat) : Int) < (((flat (gapsL L)).length : Nat) : Int) := by rw [hfl]; simp; omega
                    have o0 : (0 : Int) ≤ ((2 * (pre ++ [(a, e - a)]).length : Nat) : Int) := by omega
                    have o2 : ((y.1 : Int) == (e : Int)) = false := by simp; omega
                    have o3 : ¬ (y.1 : Int) = (e : Int) := by omega
                    clear hfy hy
                    generalize y.1 = y1 at *
                    have HREL : Hid (∀ wx, wr.grownBy wx none → ∃ (a' : Nat) (pre' rest' : List (Nat × Nat)), (L.length + 1 - e) + a' = L.length + 1 ∧ a' ≤ L.length ∧ Value.int .i64 (e : Int) = .int .i64 (a' : Int) ∧ Value.int .i64 ((allTo L a).length : Int) = .int .i64 ((allTo L a').length : Int) ∧ Value.int .i64 ((2 * (pre ++ [(a, e - a)]).length : Nat) : Int) = .int .i64 ((2 * pre'.length : Nat) : Int) ∧ Hid (gapsL L = pre' ++ rest') ∧ Hid (GapsR L a' rest') ∧ w10.grownBy wx none) := fun wx hwx => ⟨e, pre ++ [(a, e - a)], _, by omega, heL, rfl, by rw [hskip], rfl, HR, HXS, grown_trans hgw hwx⟩
                    have HM : Hid (L.length + 1 - e < gk) := by show _ < _; omega
                    clear hskip HR HXS hgap heL2 hxs' hgr hpr hfa hB1 hB2 hBk hBg hgw hfl hnext hrl hv
                    generalize 2 * (pre ++ [(a, e - a)]).length = P2 at *
                    generalize 2 * pre.length + 1 = P1 at *
                    generalize 2 * pre.length = P0 at *
                    generalize (flat (gapsL L)).length = lo at *
                    generalize (allL L).length = li at *
                    generalize (allTo L a).length = kk at *
                    generalize e - a = df at *
                    go_wp2_with fail
                    go_quiet (fail)
                    go_wp2
                    go_roundg (L.length + 1 - e)
                    case measure => exact HM.out
                    case rel => exact HREL.out _ (grown_drewN _ _ _)

              | true =>
                have hx := all_next L a ha hv
                have hk1 := (List.getElem?_eq_some_iff.1 hx).1
                obtain ⟨d1, rfl, hc1⟩ := hB1 (allTo L a).length (.int .i64 (a : Int)) (by simp only [intsV, List.getElem?_map, hx]; rfl)
                have k1 : ((allTo L a).length : Int) < ((allL L).length : Int) := by omega
                have k0 : (0 : Int) ≤ ((allTo L a).length : Int) := by omega
                have hkbi : ((allTo L a).length : Int) ≤ 65536 := by omega
                have hli2 : (allL L).length ≤ 65536 := by omega
                have hab : (a : Int) ≤ 65536 := by omega
                cases rest with
                | nil =>
                  have o1 : (((flat (gapsL L)).length : Nat) : Int) ≤ ((2 * pre.length : Nat) : Int) := by rw [hfl]; simp
                  have HREL : Hid (∀ wx, wr.grownBy wx none → ∃ (a' : Nat) (pre' rest' : List (Nat × Nat)), (gk - 1) + a' = L.length + 1 ∧ a' ≤ L.length ∧ Value.int .i64 ((a : Int) + 1) = .int .i64 (a' : Int) ∧ Value.int .i64 (((allTo L a).length : Int) + 1) = .int .i64 ((allTo L a').length : Int) ∧ Value.int .i64 ((2 * pre.length : Nat) : Int) = .int .i64 ((2 * pre'.length : Nat) : Int) ∧ Hid (gapsL L = pre' ++ rest') ∧ Hid (GapsR L a' rest') ∧ w10.grownBy wx none) := fun wx hwx => ⟨a + 1, pre, _, by omega, by omega, by simp, by rw [allTo_succ, hv]; simp, rfl, hpr, hgr.out.step hv, grown_trans hgw hwx⟩
                  clear hgr hpr hB1 hB2 hBk hBg hgw hfl hv hx
                  generalize 2 * pre.length = P0 at *
                  generalize (flat (gapsL L)).length = lo at *
                  generalize (allL L).length = li at *
                  generalize (allTo L a).length = kk at *
                  go_wp2
                  go_roundg (gk - 1)
                  case measure => omega
                  case rel => exact HREL.out _ (grown_refl _ _)

                | cons y ys =>
                  have hyb := hgr.out.beyond (fun _ => hv)
                  have hfy : (flat (gapsL L))[2 * pre.length]? = some y.1 := by rw [hpr.out]; exact (flat_mid _ y ys).1
                  obtain ⟨d3, rfl, hc4⟩ := hB2 (2 * pre.length) (.int .i64 (y.1 : Int)) (by simp only [intsV, List.getElem?_map, hfy]; rfl)
                  have o1 : ((2 * pre.length : Nat) : Int) < (((flat (gapsL L)).length : Nat) : Int) := by rw [hfl]; simp; omega
                  have o0 : (0 : Int) ≤ ((2 * pre.length : Nat) : Int) := by omega
                  have o2 : ((y.1 : Int) == (a : Int)) = false := by simp; omega
                  have o3 : ¬ (y.1 : Int) = (a : Int) := by omega
                  clear hfy hyb
                  have HREL : Hid (∀ wx, wr.grownBy wx none → ∃ (a' : Nat) (pre' rest' : List (Nat × Nat)), (gk - 1) + a' = L.length + 1 ∧ a' ≤ L.length ∧ Value.int .i64 ((a : Int) + 1) = .int .i64 (a' : Int) ∧ Value.int .i64 (((allTo L a).length : Int) + 1) = .int .i64 ((allTo L a').length : Int) ∧ Value.int .i64 ((2 * pre.length : Nat) : Int) = .int .i64 ((2 * pre'.length : Nat) : Int) ∧ Hid (gapsL L = pre' ++ rest') ∧ Hid (GapsR L a' rest') ∧ w10.grownBy wx none) := fun wx hwx => ⟨a + 1, pre, _, by omega, by omega, by simp, by rw [allTo_succ, hv]; simp, rfl, hpr, hgr.out.step hv, grown_trans hgw hwx⟩
                  clear hgr hpr hB1 hB2 hBk hBg hgw hfl hv hx
                  generalize y.1 = y1 at *
                  generalize 2 * pre.length = P0 at *
                  generalize (flat (gapsL L)).length = lo at *
                  generalize (allL L).length = li at *
                  generalize (allTo L a).length = kk at *
                  go_wp2
                  go_roundg (gk - 1)
                  case measure => omega
                  case rel => exact HREL.out _ (grown_refl _ _)

            · have hae : a = L.length := by omega
              subst hae
              have hr0 : rest = [] := hgr.out.uniq (.nil (Seek.out (Nat.le_refl _)))
              subst hr0
              have e1 : ((allTo L L.length).length : Int) = ((allL L).length : Int) := rfl
              have e2 : ((2 * pre.length : Nat) : Int) = (((flat (gapsL L)).length : Nat) : Int) := by rw [hfl]; simp
              rw [e1, e2]
              have hai : (n : Int) ≤ (L.length : Int) := by omega
              have hai2 : (L.length : Int) = (n : Int) := by omega
              have HW := hide (And.intro hBg (And.intro hgw hBk))
              clear e1 e2 hB1 hB2 hBg hgw hBk hfl
              generalize (flat (gapsL L)).length = lo at *
              generalize (allL L).length = li at *
              go_wp2
              refine ⟨by simp, .inl ⟨_, _, rfl, run_takeDeferred (((grown_trans HW.out.1 HW.out.2.1).block D hDl (by simp)).trans HK.out), ?_⟩⟩
              exact ⟨_, results_tmp rfl _ _ _, rfl, grown_then (grown_trans HW.out.2.2.grown HW.out.2.1) (grownBy_putObj' _ D _) (fun k e => by cases e; exact Or.inl hDw)⟩

        case stop =>
          rintro D c pre W _ _ h _
          exact h.elim
      · have hmi : ¬ (n : Int) < 65536 := by omega
        have hmd : decide ((n : Int) < 65536) = false := decide_eq_false hmi
        clear hn1 hmax hn
        go_wp2_with fail
        refine (all_any _ L _ (Or.inl ⟨bt, gt, rfl, HB.out.t⟩) HB.out.tab hLs).mono ?_
        rintro e w6 ⟨v6, rfl, hV6, hg6⟩
        have H6 := hide (And.intro hV6 (And.intro (HB.out.kept hg6) hg6))
        clear hV6 hg6
        clear hmi hmd
        go_wp2_with fail
        refine (told_any v6 L w6 H6.out.1).mono ?_
        rintro e w7 ⟨s7, rfl, hown7, hg7⟩
        obtain ⟨a1, c1, rfl, _, _, _, hat1, _, _⟩ := own_at hown7
        have H7 := hide (And.intro hat1 (And.intro (H6.out.2.1.kept hg7) (grown_trans H6.out.2.2 hg7)))
        clear hat1 hown7 hg7 H6
        go_wp2_with fail
        refine (gaps_any _ L _ (Or.inl ⟨bt, gt, rfl, H7.out.2.1.t⟩) H7.out.2.1.tab hLs).mono ?_
        rintro e w8 ⟨v8, rfl, hV8, hg8⟩
        have H8 := hide (And.intro hV8 (And.intro (H7.out.1.grown hg8) (And.intro (H7.out.2.1.kept hg8) (grown_trans H7.out.2.2 hg8))))
        clear hV8 hg8 H7
        go_wp2_with fail
        refine (pairs_any v8 L w8 H8.out.1).mono ?_
        rintro e w9 ⟨s9, rfl, hown9, hg9⟩
        obtain ⟨a2, c2, rfl, _, _, _, hat2, _, _⟩ := own_at hown9
        have H9 := hide (And.intro (H8.out.2.1.grown hg9) (And.intro hat2 (And.intro (H8.out.2.2.1.kept hg9) (grown_trans H8.out.2.2.2 hg9))))
        clear hat2 hown9 hg9 H8
        have hcl := allL_len L
        have hcnt := count_any b g L w9 H9.out.2.2.1.s
        rw [← hcl] at hcnt
        have HC := hide hcnt
        clear hcnt hcl
        go_wp2_with fail
        refine HC.out.mono ?_
        rintro e w10 ⟨rfl, rfl⟩
        clear HC
        have hli := allL_length L
        have hlo : (flat (gapsL L)).length ≤ 131072 := by rw [flat_length]; have := gapsL_length L; omega
        go_wp2
        go_loopg [19, 20, 21] (L.length + 1) (fun k A K G wr => ∃ (a : Nat) (pre rest : List (Nat × Nat)), k + a = L.length + 1 ∧ a ≤ L.length ∧ A = .int .i64 (a : Int) ∧ K = .int .i64 ((allTo L a).length : Int) ∧ G = .int .i64 ((2 * pre.length : Nat) : Int) ∧ Hid (gapsL L = pre ++ rest) ∧ Hid (GapsR L a rest) ∧ w10.grownBy wr none)
        case atStart => exact ⟨0, [], gapsL L, by omega, by omega, rfl, rfl, rfl, hide rfl, hide (gapsL_is L), grown_refl _ _⟩
        case round =>
          obtain ⟨a, pre, rest, hka, haL, rfl, rfl, rfl, hpr, hgr, hgw⟩ := hrel
          obtain ⟨hA1, hA2, hBk, hBg⟩ := H9.out
          have hB1 := hA1.grown hgw
          have hB2 := hA2.grown hgw
          clear hA1 hA2
          have hkb : (allTo L a).length ≤ 65536 := by have := (allTo_prefix L a L.length haL).length_le; have h2 := allL_length L; unfold allL at h2; omega
          have hpb : pre.length ≤ 65536 := by have := gapsL_length L; rw [hpr.out] at this; simp at this; omega
          have hfl : (flat (gapsL L)).length = 2 * pre.length + 2 * rest.length := by rw [flat_length, hpr.out]; simp; omega
          have hLen := hLn.out
          by_cases ha : a < L.length
          · have hai : (a : Int) < (n : Int) := by omega
            cases hv : L.getD a false with
            | false =>
              obtain ⟨e, xs', rfl, hae, heL, hxs', hgap, heL2⟩ := hgr.out.at ha hv
              have hfa : (flat (gapsL L))[2 * pre.length]? = some a ∧ (flat (gapsL L))[2 * pre.length + 1]? = some (e - a) := by rw [hpr.out]; exact flat_mid pre (a, e - a) xs'
              obtain ⟨d2, rfl, hc2⟩ := hB2 (2 * pre.length) (.int .i64 (a : Int)) (by simp only [intsV, List.getElem?_map, hfa.1]; rfl)
              obtain ⟨d2', hd2', hc3⟩ := hB2 (2 * pre.length + 1) (.int .i64 ((e - a : Nat) : Int)) (by simp only [intsV, List.getElem?_map, hfa.2]; rfl)
              cases hd2'
              have hskip : allTo L e = allTo L a := allTo_skip L a e (by omega) (fun j h1 h2 => by rw [hgap j h1 h2]; simp)
              have HR : Hid (gapsL L = (pre ++ [(a, e - a)]) ++ xs') := by show _ = _; rw [hpr.out]; simp
              have g1 : (((2 * pre.length : Nat) : Int) : Int) < (((flat (gapsL L)).length : Nat) : Int) := by rw [hfl]; simp; omega
              have g2 : ((2 * pre.length : Nat) : Int) + 1 = ((2 * pre.length + 1 : Nat) : Int) := by omega
              have g2w : IntKind.i64.wrap (((2 * pre.length : Nat) : Int) + 1) = ((2 * pre.length + 1 : Nat) : Int) := by rw [wrap_i64_small _ (by omega) (by omega)]; omega
              have g3 : ((2 * pre.length + 1 : Nat) : Int) < (((flat (gapsL L)).length : Nat) : Int) := by rw [hfl]; simp; omega
              have g4 : (1 : Int) ≤ ((e - a : Nat) : Int) := by omega
              have g5 : (a : Int) + ((e - a : Nat) : Int) = (e : Int) := by omega
              have g5w : IntKind.i64.wrap ((a : Int) + ((e - a : Nat) : Int)) = (e : Int) := by rw [wrap_i64_small _ (by omega) (by omega)]; omega
              have g6 : ((2 * pre.length : Nat) : Int) + 2 = ((2 * (pre ++ [(a, e - a)]).length : Nat) : Int) := by simp; omega
              have g0 : (0 : Int) ≤ ((2 * pre.length : Nat) : Int) := by omega
              have g4d : decide (((e - a : Nat) : Int) < 1) = false := decide_eq_false (by omega)
              have g4n : ¬ (e - a) = 0 := by omega
              have g4m : decide ((e - a) = 0) = false := decide_eq_false g4n
              have wP1 : IntKind.i64.wrap ((2 * pre.length + 1 : Nat) : Int) = ((2 * pre.length + 1 : Nat) : Int) := wrap_i64_small _ (by omega) (by omega)
              have wE : IntKind.i64.wrap (e : Int) = (e : Int) := wrap_i64_small _ (by omega) (by omega)
              have g0' : (0 : Int) ≤ ((2 * pre.length + 1 : Nat) : Int) := by omega
              have hnext : Hid (wr.drew.grownBy wr.drew none) := grown_refl _ _
              have HIN : ((allL L).length ≤ (allTo L a).length) ∨ (∃ x, (allTo L a).length < (allL L).length ∧ (allL L)[(allTo L a).length]? = some x ∧ e ≤ x) := by
                by_cases hk : (allTo L a).length < (allL L).length
                · right
                  obtain ⟨x, hx⟩ : ∃ x, (allL L)[(allTo L a).length]? = some x := ⟨_, List.getElem?_eq_getElem hk⟩
                  refine ⟨x, hk, hx, ?_⟩
                  obtain ⟨y1, y2, y3⟩ := all_beyond L a x hx
                  by_cases hxe : x < e
                  · have := hgap x y1 hxe; rw [this] at y3; cases y3
                  · omega
                · left; omega
              have HOUT : (xs' = []) ∨ (∃ x ys, xs' = x :: ys ∧ e < x.1) := by
                cases xs' with
                | nil => exact Or.inl rfl
                | cons x ys => exact Or.inr ⟨x, ys, rfl, hxs'.beyond heL2⟩
              have HXS := hide hxs'
              have hrl : xs'.length + 1 = ((a, e - a) :: xs').length := rfl
              have hli2 : (allL L).length ≤ 65536 := by omega
              have hlo2 : (((flat (gapsL L)).length : Nat) : Int) ≤ 131072 := by omega
              rcases HIN with HIN | HIN
              · rcases HOUT with HOUT | HOUT
                · have k1 : ((allL L).length : Int) ≤ ((allTo L a).length : Int) := by omega
                  have k1d : decide (((allTo L a).length : Int) < ((allL L).length : Int)) = false := decide_eq_false (by omega)
                  have k1n : decide ((allTo L a).length < (allL L).length) = false := decide_eq_false (by omega)
                  have k1m : (allL L).length ≤ (allTo L a).length := by omega
                  clear HIN
                  subst HOUT
                  have o1 : (((flat (gapsL L)).length : Nat) : Int) ≤ ((2 * (pre ++ [(a, e - a)]).length : Nat) : Int) := by rw [hfl]; simp; omega
                  have o1d : decide (((2 * (pre ++ [(a, e - a)]).length : Nat) : Int) < (((flat (gapsL L)).length : Nat) : Int)) = false := decide_eq_false (by omega)
                  have HREL : Hid (∀ wx, wr.grownBy wx none → ∃ (a' : Nat) (pre' rest' : List (Nat × Nat)), (L.length + 1 - e) + a' = L.length + 1 ∧ a' ≤ L.length ∧ Value.int .i64 (e : Int) = .int .i64 (a' : Int) ∧ Value.int .i64 ((allTo L a).length : Int) = .int .i64 ((allTo L a').length : Int) ∧ Value.int .i64 ((2 * (pre ++ [(a, e - a)]).length : Nat) : Int) = .int .i64 ((2 * pre'.length : Nat) : Int) ∧ Hid (gapsL L = pre' ++ rest') ∧ Hid (GapsR L a' rest') ∧ w10.grownBy wx none) := fun wx hwx => ⟨e, pre ++ [(a, e - a)], _, by omega, heL, rfl, by rw [hskip], rfl, HR, HXS, grown_trans hgw hwx⟩
                  have HM : Hid (L.length + 1 - e < gk) := by show _ < _; omega
                  clear hskip HR HXS hgap heL2 hxs' hgr hpr hfa hB1 hB2 hBk hBg hgw hfl hnext hrl hv
                  generalize 2 * (pre ++ [(a, e - a)]).length = P2 at *
                  generalize 2 * pre.length + 1 = P1 at *
                  generalize 2 * pre.length = P0 at *
                  generalize (flat (gapsL L)).length = lo at *
                  generalize (allL L).length = li at *
                  generalize (allTo L a).length = kk at *
                  generalize e - a = df at *
                  go_wp2_with fail
                  go_quiet (fail)
                  go_wp2
                  go_roundg (L.length + 1 - e)
                  case measure => exact HM.out
                  case rel => exact HREL.out _ (grown_drewN _ _ _)

                · have k1 : ((allL L).length : Int) ≤ ((allTo L a).length : Int) := by omega
                  have k1d : decide (((allTo L a).length : Int) < ((allL L).length : Int)) = false := decide_eq_false (by omega)
                  have k1n : decide ((allTo L a).length < (allL L).length) = false := decide_eq_false (by omega)
                  have k1m : (allL L).length ≤ (allTo L a).length := by omega
                  clear HIN
                  obtain ⟨y, ys, rfl, hy⟩ := HOUT
                  have hfy : (flat (gapsL L))[2 * (pre ++ [(a, e - a)]).length]? = some y.1 := by rw [HR.out]; exact (flat_mid _ y ys).1
                  obtain ⟨d3, hd3, hc4⟩ := hB2 (2 * (pre ++ [(a, e - a)]).length) (.int .i64 (y.1 : Int)) (by simp only [intsV, List.getElem?_map, hfy]; rfl)
                  cases hd3
                  have o1 : ((2 * (pre ++ [(a, e - a)]).length : Nat) : Int) < (((flat (gapsL L)).length : Nat) : Int) := by rw [hfl]; simp; omega
                  have o0 : (0 : Int) ≤ ((2 * (pre ++ [(a, e - a)]).length : Nat) : Int) := by omega
                  have o2 : ((y.1 : Int) == (e : Int)) = false := by simp; omega
                  have o3 : ¬ (y.1 : Int) = (e : Int) := by omega
                  clear hfy hy
                  generalize y.1 = y1 at *
                  have HREL : Hid (∀ wx, wr.grownBy wx none → ∃ (a' : Nat) (pre' rest' : List (Nat × Nat)), (L.length + 1 - e) + a' = L.length + 1 ∧ a' ≤ L.length ∧ Value.int .i64 (e : Int) = .int .i64 (a' : Int) ∧ Value.int .i64 ((allTo L a).length : Int) = .int .i64 ((allTo L a').length : Int) ∧ Value.int .i64 ((2 * (pre ++ [(a, e - a)]).length : Nat) : Int) = .int .i64 ((2 * pre'.length : Nat) : Int) ∧ Hid (gapsL L = pre' ++ rest') ∧ Hid (GapsR L a' rest') ∧ w10.grownBy wx none) := fun wx hwx => ⟨e, pre ++ [(a, e - a)], _, by omega, heL, rfl, by rw [hskip], rfl, HR, HXS, grown_trans hgw hwx⟩
                  have HM : Hid (L.length + 1 - e < gk) := by show _ < _; omega
                  clear hskip HR HXS hgap heL2 hxs' hgr hpr hfa hB1 hB2 hBk hBg hgw hfl hnext hrl hv
                  generalize 2 * (pre ++ [(a, e - a)]).length = P2 at *
                  generalize 2 * pre.length + 1 = P1 at *
                  generalize 2 * pre.length = P0 at *
                  generalize (flat (gapsL L)).length = lo at *
                  generalize (allL L).length = li at *
                  generalize (allTo L a).length = kk at *
                  generalize e - a = df at *
                  go_wp2_with fail
                  go_quiet (fail)
                  go_wp2
                  go_roundg (L.length + 1 - e)
                  case measure => exact HM.out
                  case rel => exact HREL.out _ (grown_drewN _ _ _)

              · rcases HOUT with HOUT | HOUT
                · obtain ⟨x, hk1, hx, hex⟩ := HIN
                  obtain ⟨d1, rfl, hc1⟩ := hB1 (allTo L a).length (.int .i64 (x : Int)) (by simp only [intsV, List.getElem?_map, hx]; rfl)
                  have k1 : ((allTo L a).length : Int) < ((allL L).length : Int) := by omega
                  have k2 : (e : Int) ≤ (x : Int) := by omega
                  have k0 : (0 : Int) ≤ ((allTo L a).length : Int) := by omega
                  clear hx hex
                  subst HOUT
                  have o1 : (((flat (gapsL L)).length : Nat) : Int) ≤ ((2 * (pre ++ [(a, e - a)]).length : Nat) : Int) := by rw [hfl]; simp; omega
                  have o1d : decide (((2 * (pre ++ [(a, e - a)]).length : Nat) : Int) < (((flat (gapsL L)).length : Nat) : Int)) = false := decide_eq_false (by omega)
                  have HREL : Hid (∀ wx, wr.grownBy wx none → ∃ (a' : Nat) (pre' rest' : List (Nat × Nat)), (L.length + 1 - e) + a' = L.length + 1 ∧ a' ≤ L.length ∧ Value.int .i64 (e : Int) = .int .i64 (a' : Int) ∧ Value.int .i64 ((allTo L a).length : Int) = .int .i64 ((allTo L a').length : Int) ∧ Value.int .i64 ((2 * (pre ++ [(a, e - a)]).length : Nat) : Int) = .int .i64 ((2 * pre'.length : Nat) : Int) ∧ Hid (gapsL L = pre' ++ rest') ∧ Hid (GapsR L a' rest') ∧ w10.grownBy wx none) := fun wx hwx => ⟨e, pre ++ [(a, e - a)], _, by omega, heL, rfl, by rw [hskip], rfl, HR, HXS, grown_trans hgw hwx⟩
                  have HM : Hid (L.length + 1 - e < gk) := by show _ < _; omega
                  clear hskip HR HXS hgap heL2 hxs' hgr hpr hfa hB1 hB2 hBk hBg hgw hfl hnext hrl hv
                  generalize 2 * (pre ++ [(a, e - a)]).length = P2 at *
                  generalize 2 * pre.length + 1 = P1 at *
                  generalize 2 * pre.length = P0 at *
                  generalize (flat (gapsL L)).length = lo at *
                  generalize (allL L).length = li at *
                  generalize (allTo L a).length = kk at *
                  generalize e - a = df at *
                  go_wp2_with fail
                  go_quiet (fail)
                  go_wp2
                  go_roundg (L.length + 1 - e)
                  case measure => exact HM.out
                  case rel => exact HREL.out _ (grown_drewN _ _ _)

                · obtain ⟨x, hk1, hx, hex⟩ := HIN
                  obtain ⟨d1, rfl, hc1⟩ := hB1 (allTo L a).length (.int .i64 (x : Int)) (by simp only [intsV, List.getElem?_map, hx]; rfl)
                  have k1 : ((allTo L a).length : Int) < ((allL L).length : Int) := by omega
                  have k2 : (e : Int) ≤ (x : Int) := by omega
                  have k0 : (0 : Int) ≤ ((allTo L a).length : Int) := by omega
                  clear hx hex
                  obtain ⟨y, ys, rfl, hy⟩ := HOUT
                  have hfy : (flat (gapsL L))[2 * (pre ++ [(a, e - a)]).length]? = some y.1 := by rw [HR.out]; exact (flat_mid _ y ys).1
                  obtain ⟨d3, hd3, hc4⟩ := hB2 (2 * (pre ++ [(a, e - a)]).length) (.int .i64 (y.1 : Int)) (by simp only [intsV, List.getElem?_map, hfy]; rfl)
                  cases hd3
                  have o1 : ((2 * (pre ++ [(a, e - a)]).length : Nat) : Int) < (((flat (gapsL L)).length : Nat) : Int) := by rw [hfl]; simp; omega
                  have o0 : (0 : Int) ≤ ((2 * (pre ++ [(a, e - a)]).length : Nat) : Int) := by omega
                  have o2 : ((y.1 : Int) == (e : Int)) = false := by simp; omega
                  have o3 : ¬ (y.1 : Int) = (e : Int) := by omega
                  clear hfy hy
                  generalize y.1 = y1 at *
                  have HREL : Hid (∀ wx, wr.grownBy wx none → ∃ (a' : Nat) (pre' rest' : List (Nat × Nat)), (L.length + 1 - e) + a' = L.length + 1 ∧ a' ≤ L.length ∧ Value.int .i64 (e : Int) = .int .i64 (a' : Int) ∧ Value.int .i64 ((allTo L a).length : Int) = .int .i64 ((allTo L a').length : Int) ∧ Value.int .i64 ((2 * (pre ++ [(a, e - a)]).length : Nat) : Int) = .int .i64 ((2 * pre'.length : Nat) : Int) ∧ Hid (gapsL L = pre' ++ rest') ∧ Hid (GapsR L a' rest') ∧ w10.grownBy wx none) := fun wx hwx => ⟨e, pre ++ [(a, e - a)], _, by omega, heL, rfl, by rw [hskip], rfl, HR, HXS, grown_trans hgw hwx⟩
                  have HM : Hid (L.length + 1 - e < gk) := by show _ < _; omega
                  clear hskip HR HXS hgap heL2 hxs' hgr hpr hfa hB1 hB2 hBk hBg hgw hfl hnext hrl hv
                  generalize 2 * (pre ++ [(a, e - a)]).length = P2 at *
                  generalize 2 * pre.length + 1 = P1 at *
                  generalize 2 * pre.length = P0 at *
                  generalize (flat (gapsL L)).length = lo at *
                  generalize (allL L).length = li at *
                  generalize (allTo L a).length = kk at *
                  generalize e - a = df at *
                  go_wp2_with fail
                  go_quiet (fail)
                  go_wp2
                  go_roundg (L.length + 1 - e)
                  case measure => exact HM.out
                  case rel => exact HREL.out _ (grown_drewN _ _ _)

            | true =>
              have hx := all_next L a ha hv
              have hk1 := (List.getElem?_eq_some_iff.1 hx).1
              obtain ⟨d1, rfl, hc1⟩ := hB1 (allTo L a).length (.int .i64 (a : Int)) (by simp only [intsV, List.getElem?_map, hx]; rfl)
              have k1 : ((allTo L a).length : Int) < ((allL L).length : Int) := by omega
              have k0 : (0 : Int) ≤ ((allTo L a).length : Int) := by omega
              have hkbi : ((allTo L a).length : Int) ≤ 65536 := by omega
              have hli2 : (allL L).length ≤ 65536 := by omega
              have hab : (a : Int) ≤ 65536 := by omega
              cases rest with
              | nil =>
                have o1 : (((flat (gapsL L)).length : Nat) : Int) ≤ ((2 * pre.length : Nat) : Int) := by rw [hfl]; simp
                have HREL : Hid (∀ wx, wr.grownBy wx none → ∃ (a' : Nat) (pre' rest' : List (Nat × Nat)), (gk - 1) + a' = L.length + 1 ∧ a' ≤ L.length ∧ Value.int .i64 ((a : Int) + 1) = .int .i64 (a' : Int) ∧ Value.int .i64 (((allTo L a).length : Int) + 1) = .int .i64 ((allTo L a').length : Int) ∧ Value.int .i64 ((2 * pre.length : Nat) : Int) = .int .i64 ((2 * pre'.length : Nat) : Int) ∧ Hid (gapsL L = pre' ++ rest') ∧ Hid (GapsR L a' rest') ∧ w10.grownBy wx none) := fun wx hwx => ⟨a + 1, pre, _, by omega, by omega, by simp, by rw [allTo_succ, hv]; simp, rfl, hpr, hgr.out.step hv, grown_trans hgw hwx⟩
                clear hgr hpr hB1 hB2 hBk hBg hgw hfl hv hx
                generalize 2 * pre.length = P0 at *
                generalize (flat (gapsL L)).length = lo at *
                generalize (allL L).length = li at *
                generalize (allTo L a).length = kk at *
                go_wp2
                go_roundg (gk - 1)
                case measure => omega
                case rel => exact HREL.out _ (grown_refl _ _)

              | cons y ys =>
                have hyb := hgr.out.beyond (fun _ => hv)
                have hfy : (flat (gapsL L))[2 * pre.length]? = some y.1 := by rw [hpr.out]; exact (flat_mid _ y ys).1
                obtain ⟨d3, rfl, hc4⟩ := hB2 (2 * pre.length) (.int .i64 (y.1 : Int)) (by simp only [intsV, List.getElem?_map, hfy]; rfl)
                have o1 : ((2 * pre.length : Nat) : Int) < (((flat (gapsL L)).length : Nat) : Int) := by rw [hfl]; simp; omega
                have o0 : (0 : Int) ≤ ((2 * pre.length : Nat) : Int) := by omega
                have o2 : ((y.1 : Int) == (a : Int)) = false := by simp; omega
                have o3 : ¬ (y.1 : Int) = (a : Int) := by omega
                clear hfy hyb
                have HREL : Hid (∀ wx, wr.grownBy wx none → ∃ (a' : Nat) (pre' rest' : List (Nat × Nat)), (gk - 1) + a' = L.length + 1 ∧ a' ≤ L.length ∧ Value.int .i64 ((a : Int) + 1) = .int .i64 (a' : Int) ∧ Value.int .i64 (((allTo L a).length : Int) + 1) = .int .i64 ((allTo L a').length : Int) ∧ Value.int .i64 ((2 * pre.length : Nat) : Int) = .int .i64 ((2 * pre'.length : Nat) : Int) ∧ Hid (gapsL L = pre' ++ rest') ∧ Hid (GapsR L a' rest') ∧ w10.grownBy wx none) := fun wx hwx => ⟨a + 1, pre, _, by omega, by omega, by simp, by rw [allTo_succ, hv]; simp, rfl, hpr, hgr.out.step hv, grown_trans hgw hwx⟩
                clear hgr hpr hB1 hB2 hBk hBg hgw hfl hv hx
                generalize y.1 = y1 at *
                generalize 2 * pre.length = P0 at *
                generalize (flat (gapsL L)).length = lo at *
                generalize (allL L).length = li at *
                generalize (allTo L a).length = kk at *
                go_wp2
                go_roundg (gk - 1)
                case measure => omega
                case rel => exact HREL.out _ (grown_refl _ _)

          · have hae : a = L.length := by omega
            subst hae
            have hr0 : rest = [] := hgr.out.uniq (.nil (Seek.out (Nat.le_refl _)))
            subst hr0
            have e1 : ((allTo L L.length).length : Int) = ((allL L).length : Int) := rfl
            have e2 : ((2 * pre.length : Nat) : Int) = (((flat (gapsL L)).length : Nat) : Int) := by rw [hfl]; simp
            rw [e1, e2]
            have hai : (n : Int) ≤ (L.length : Int) := by omega
            have hai2 : (L.length : Int) = (n : Int) := by omega
            have HW := hide (And.intro hBg (And.intro hgw hBk))
            clear e1 e2 hB1 hB2 hBg hgw hBk hfl
            generalize (flat (gapsL L)).length = lo at *
            generalize (allL L).length = li at *
            go_wp2
            exact ⟨_, results_tmp rfl _ _ _, rfl, grown_trans HW.out.2.2.grown HW.out.2.1⟩


theorem back_any (n : Int) (ao : Option Addr) (m cap : Nat) (xs : List Int) (w : World) (hT : Tab w) (hxs : xs.length = m) (hat : AtV w ao (xs.map (Value.int .i64))) (hm : m ≤ 4611686018427387904) :
    Calls Tryd.prog 6 #[.int .i64 n, .slice ao m cap] w fun e w' => e = .returned (.bool true) ∧ w.grownBy w' none := by
  by_cases hn : n < 0 ∨ 65536 < n
  · exact back_bad n ao m cap w hT hn
  · obtain ⟨k, rfl⟩ := Int.eq_ofNat_of_zero_le (show 0 ≤ n by omega)
    exact back_ok k (by omega) ao m cap xs w hT hxs hat hm

end Go.Proofs.YtajdgkbeenalkaaDoor
