/- Fares: few. -/
import Derived.Test.YtbebblhnhpdpjaaXb
import Derived.Test.YtbebblhnhpdpjaaXd
namespace Go.Proofs.Ytbebblhnhpdpjaa
open Go.RowKit
attribute [local go_sem ↓] Go.wp_at_zero Go.wp_at_succ
attribute [local go_sem] run_store_float

/-- A row of ints, whatever they are. -/
def ZAt (w : World) (ao : Option Addr) (n : Nat) : Prop := ∀ j, j < n → ∃ (a : Addr) (x : Int), ao = some a ∧ w.cell? (a.add j) = some (.int .i64 x)
theorem ZAt.grown {w w' : World} {ao : Option Addr} {n : Nat} (h : ZAt w ao n) (hg : w.grownBy w' none) : ZAt w' ao n := fun j hj => by
  obtain ⟨a, x, e, hc⟩ := h j hj
  exact ⟨a, x, e, hg.cell hc (by simp)⟩
theorem own_new (w : World) (base : Nat) (xs : List Nat) (hb : base ≤ w.heap.size) (hl : xs.length ≤ 1024) :
    (w.alloc (.cells (fv xs).toArray 33)).ownsRow base 33 1 (.slice (some ⟨w.heap.size, 0, none⟩) xs.length xs.length) xs.length (fv xs) :=
  ⟨by simp [fv_length], Or.inr ⟨_, _, _, rfl, hb, heap_alloc_new w _, Nat.le_refl _, by unfold maxLen; omega, by simp [fv_length], by simp [List.take_of_length_le, fv_length]⟩⟩
/-- What few has made so far. -/
structure FewS (w0 wr : World) (o : Value) (p P : Nat) (pre : List (Fa × Value)) : Prop where
  nn : Nn p
  v : val (ru p) = P * U1
  lo : 1000 ≤ P + 299 * pre.length
  hi : P ≤ 1000
  good : GoodF (pre.map Prod.fst)
  least : ∀ (j : Nat) (d : Fa), (pre.map Prod.fst)[j]? = some d → ru p ≤ ru d.1
  rows : CfS w0.heap.size wr o pre
  grown : w0.grownBy wr none
theorem FewS.start (w : World) : FewS w w (.slice none 0 0) 4652007308841189376 1000 [] :=
  ⟨val_1000.1, val_1000.2, by show 1000 ≤ 1000 + 299 * 0; omega, Nat.le_refl _, GoodF.nil, fun j d h => by simp at h, CfS.nil _ _, grown_refl _ _⟩
theorem FewS.next {w0 wr w3 w4 : World} {o o' x : Value} {p P r d : Nat} {pre : List (Fa × Value)} {cs : List Nat} (h : FewS w0 wr o p P pre) (h3 : pre.length ≤ 2) (hr : Nn r) (hv : val (ru r) = (P - d) * U1) (hd : d < 300) (hc : Ch cs)
    (hg : wr.grownBy w3 none) (hx : w3.ownsRow wr.heap.size 33 1 x cs.length (fv cs)) (ho : w4.ownsRow w0.heap.size 48 2 o' (pre.length + 1) (fc pre ++ [.float .f64 r, x])) (hg4 : w3.grownBy w4 o.ownBlock) :
    FewS w0 w4 o' r (P - d) (pre ++ [((r, cs), x)]) := by
  have hlo := h.lo
  have hhi := h.hi
  have hle : ru r ≤ ru p := val_le_iff.1 (by rw [hv, h.v]; exact Nat.mul_le_mul_right _ (Nat.sub_le ..))
  have hl : ∀ (j : Nat) (e : Fa), (pre.map Prod.fst)[j]? = some e → ru r ≤ ru e.1 := fun j e he => Nat.le_trans hle (h.least j e he)
  have hm : (pre ++ [((r, cs), x)]).map Prod.fst = pre.map Prod.fst ++ [(r, cs)] := by simp
  have hrow := h.rows.grown hg
  have hsz := h.grown.size
  refine ⟨hr, hv, by rw [List.length_append]; simp; omega, by omega, ?_, ?_, hrow.push (c := (r, cs)) ⟨by have := hc.few; dsimp only; omega, own_lowT hx hsz⟩ ho hg4, grown_then (grown_trans h.grown hg) hg4 (fun k e => Or.inl (own_rowblock h.rows.row k e).1)⟩
  · rw [hm]
    exact h.good.snoc ⟨hr, ⟨P - d, by omega, by omega, hv⟩, hc⟩ hl
  · intro j e he
    rw [hm] at he
    by_cases hj : j < (pre.map Prod.fst).length
    · rw [List.getElem?_append_left hj] at he; exact hl j e he
    · rw [List.getElem?_append_right (by omega)] at he
      have h1 := (List.getElem?_eq_some_iff.1 he).1
      have h2 : j - (pre.map Prod.fst).length = 0 := by simp at h1; simp; omega
      rw [h2] at he
      simp at he
      subst he
      exact Nat.le_refl _
def mx (ws : List Nat) (S : Nat) : Nat → List Nat
  | 0 => ws.map fw
  | t + 1 => (mx ws S t).set t (qq (ws.getD t 0) S)
theorem mx_length (ws : List Nat) (S : Nat) : ∀ t, (mx ws S t).length = ws.length := by
  intro t
  induction t with
  | zero => simp [mx]
  | succ t ih => simp [mx, ih]
theorem mx_get (a b c d S : Nat) {t : Nat} (h : t < 4) : (mx [a, b, c, d] S t).getD t 0 = fw ([a, b, c, d].getD t 0) := by
  have : t = 0 ∨ t = 1 ∨ t = 2 ∨ t = 3 := by omega
  rcases this with rfl | rfl | rfl | rfl <;> rfl
theorem mx_four (a b c d S : Nat) : mx [a, b, c, d] S 4 = [qq a S, qq b S, qq c S, qq d S] := rfl
theorem list_four {ws : List Nat} (h : ws.length = 4) : ∃ a b c d, ws = [a, b, c, d] := by
  match ws, h with
  | [a, b, c, d], _ => exact ⟨a, b, c, d, rfl⟩
/-- The weights read so far. -/
structure Wts (wl wr : World) (c : Value) (t : Nat) (ws : List Nat) : Prop where
  len : ws.length = t
  lt : ∀ x ∈ ws, x < 9
  le : ws.sum ≤ 8 * t
  row : wr.ownsRow wl.heap.size 33 1 c t (fv (ws.map fw))
  grown : wl.grownBy wr none
theorem Wts.next {wl wr w3 w4 : World} {c c' : Value} {t x : Nat} {ws : List Nat} (h : Wts wl wr c t ws) (hx : x < 9) (hg : wr.grownBy w3 none) (ho : w4.ownsRow wl.heap.size 33 1 c' (t + 1) (fv (ws.map fw) ++ [.float .f64 (fw x)])) (hg4 : w3.grownBy w4 c.ownBlock) : Wts wl w4 c' (t + 1) (ws ++ [x]) :=
  ⟨by rw [List.length_append, h.len]; rfl, fun y hy => by
    rcases List.mem_append.1 hy with h1 | h1
    · exact h.lt y h1
    · simp at h1; omega, by have := h.le; simp; omega, by
    have e : fv ((ws ++ [x]).map fw) = fv (ws.map fw) ++ [.float .f64 (fw x)] := by rw [List.map_append, fv_append]; rfl
    rw [e]; exact ho, grown_then (grown_trans h.grown hg) hg4 (fun k e => Or.inl (own_rowblock h.row k e).1)⟩
theorem run_quo {s q r : Nat} (h : floatBits .quo .f64 s q = some r) (w : World) : (binOp .quo 33 (.float .f64 s) (.float .f64 q)).run Try.prog w = .ok (.float .f64 r) w := run_float_arith w _ _ _ _ _ _ h
theorem cell1_new (w : World) (u : Value) (t : TypeId) : ∀ j x, [u][j]? = some x → (w.alloc (.cells #[u] t)).cell? ((⟨w.heap.size, 0, none⟩ : Addr).add j) = some x := by
  intro j x hx
  have h : (w.alloc (.cells #[u] t)).heap[w.heap.size]? = some (.cells [u].toArray t (0, 0)) := heap_alloc_new w _
  rw [Addr.add_lit, Nat.zero_add, cell_row h]; exact hx

set_option maxRecDepth 100000 in
set_option maxHeartbeats 8000000 in
theorem few_any (ao : Option Addr) (n cap : Nat) (w : World) (hz : ZAt w ao n) (hn : n ≤ 140737488355328) :
    Calls Try.prog 25 #[.slice ao n cap] w fun e w' => ∃ o pre, e = .returned o ∧ (1 ≤ pre.length ∧ pre.length ≤ 3) ∧ GoodF (pre.map Prod.fst) ∧ CfS w.heap.size w' o pre ∧ w.grownBy w' none := by
  obtain ⟨i0, hi, hz0, hz1, hz2⟩ := info_parts Try.info48
  have HI := hide (And.intro hi (And.intro hz0 (And.intro hz1 hz2)))
  obtain ⟨i1, hj, hj0, hj1, hj2⟩ := info_parts Try.info33
  have HJ := hide (And.intro hj (And.intro hj0 (And.intro hj1 hj2)))
  have HZ := hide hz
  clear hi hz0 hz1 hz2 hj hj0 hj1 hj2 hz
  go_enter Try.func25, Try.ntmps25
  go_wp2
  go_loopg [3, 4, 5] 3 (fun q o p i wr => ∃ (L I po pc pw P : Nat) (pa : Option Addr) (pre : List (Fa × Value)), po = L ∧ q + L = 3 ∧ Hid (I = 5 * L) ∧ o = .slice pa L pc ∧ p = .float .f64 pw ∧ i = .int .i64 (I : Int) ∧ Hid (pre.length = L ∧ FewS w wr (.slice pa L pc) pw P pre))
  case atStart => exact ⟨0, 0, 0, 0, 4652007308841189376, 1000, none, [], rfl, rfl, hide rfl, rfl, rfl, rfl, hide ⟨rfl, FewS.start w⟩⟩
  case round =>
    obtain ⟨L, I, po, pc, pw, P, pa, pre, -, hqL, HIL, rfl, rfl, rfl, HS⟩ := hrel
    have HOwn : Hid (wr.ownsRow w.heap.size 48 2 (.slice pa L pc) L (fc pre)) := hide (by have := HS.out.2.rows.row; rwa [HS.out.1] at this)
    have hI15 : I ≤ 15 := by have := HIL.out; omega
    by_cases hgo : I + 4 < n ∧ L < 3
    · obtain ⟨hI, hL⟩ := hgo
      have hI2 : (I : Int) + 4 < (n : Int) := by omega
      have hL2 : (L : Int) < 3 := by omega
      have hIn : (I : Int) < (n : Int) := by omega
      obtain ⟨a, x, rfl, hcx⟩ := (HZ.out.grown HS.out.2.grown) I (by omega)
      obtain ⟨d, hd, hp⟩ := pick_nat x 300 (by omega) (by omega)
      have HP := hide hp
      obtain ⟨r, hr1, hr2, hr3⟩ := sub_price HS.out.2.nn HS.out.2.v (n := d) (by have := HS.out.2.lo; rw [HS.out.1] at this; omega) HS.out.2.hi
      have HR := hide (And.intro hr2 hr3)
      have hm : ∀ w, (binOp .sub 33 (.float .f64 pw) (.float .f64 (floatOfInt .f64 (d : Int)))).run Try.prog w = .ok (.float .f64 r) w := run_sub hr1
      clear hp hr1 hr2 hr3
      go_wp2_with fail
      refine (HP.out _).mono ?_
      rintro e w1 ⟨rfl, hw1⟩
      obtain rfl := hw1
      clear HP hcx
      generalize hog : gk = og at *
      go_wp2
      clear hm
      go_loopg [6, 7, 8] 4 (fun q sm c k w2 => ∃ (t K S cc : Nat) (ca : Option Addr) (ws : List Nat), q + t = 4 ∧ Hid (K = t + 1) ∧ S < 33 ∧ sm = .float .f64 (fw S) ∧ c = .slice ca t cc ∧ k = .int .i64 (K : Int) ∧ Hid (ws.sum = S ∧ Wts w1 w2 (.slice ca t cc) t ws))
      case atStart => exact ⟨0, 1, 0, 0, none, [], rfl, hide rfl, by omega, by rw [fw_zero], rfl, rfl, hide ⟨rfl, rfl, fun x hx => by simp at hx, Nat.le_refl _, World.ownsRow_nil _ _ _ _, grown_refl _ _⟩⟩
      case round =>
        obtain ⟨t, K, S, cc, ca, ws, hqt, HK, hS, rfl, rfl, rfl, HW⟩ := hrel
        have hK5 : K ≤ 5 := by have := HK.out; omega
        by_cases hgt : 0 < gk
        · have ht : (K : Int) < 5 := by have := HK.out; omega
          obtain ⟨z, hz⟩ : ∃ z, z = I + K := ⟨_, rfl⟩
          have hsm : (I : Int) + (K : Int) = (z : Int) := by omega
          have hlt : (z : Int) < (n : Int) := by have := HK.out; omega
          obtain ⟨a', x2, ha', hcx⟩ := (HZ.out.grown (grown_trans HS.out.2.grown HW.out.2.grown)) z (by omega)
          clear hz
          cases ha'
          obtain ⟨d2, hd2, hp⟩ := pick_nat x2 9 (by omega) (by omega)
          have HP := hide hp
          have hSle : S ≤ 8 * t := by have := HW.out.2.le; rw [HW.out.1] at this; exact this
          have hadd : ∀ w, (binOp .add 33 (.float .f64 (fw S)) (.float .f64 (fw d2))).run Try.prog w = .ok (.float .f64 (fw (S + d2))) w := run_add (fw_add S (by omega) d2 hd2)
          clear hp
          go_wp2_with fail
          refine (HP.out _).mono ?_
          rintro e w3 ⟨rfl, hw3⟩
          obtain rfl := hw3
          clear HP hcx
          have hfl : floatOfInt .f64 (d2 : Int) = fw d2 := rfl
          go_wp2_with (at_builtin; refine wpList_append_own _ rfl (.tmp 43) (.tmp 45) 27 rfl w1.heap.size 33 i1 (.float .f64 0) 1 8 Try.underlying27 HJ.out.1 HJ.out.2.1 HJ.out.2.2.1 HJ.out.2.2.2 rfl (by decide) (.slice ca t cc) t (fv (ws.map fw)) rfl (own_grownT HW.out.2.row (grown_alloc w3 _)) ⟨w3.heap.size, 0, none⟩ 1 1 [.float .f64 (fw d2)] rfl rfl ?_ (by simp [Value.oneCell']) (by unfold maxLen; omega) (by omega) ?_ ?_)
          · exact cell1_new w3 _ _
          · have h2 := HW.out.2.grown.size; simp; omega
          · intro v' w4 ho4 hg4 _
            have hN := HW.out.2.next hd2 (grown_alloc w3 _) ho4 hg4
            obtain ⟨ca', cc', hv'⟩ := own_form ho4
            subst hv'
            have HN := hide hN
            clear hN ho4 hg4
            go_wp2
            go_roundg (gk - 1)
            case measure => omega
            case rel => exact ⟨t + 1, K + 1, S + d2, cc', ca', ws ++ [d2], by omega, hide (by have := HK.out; omega), by omega, rfl, rfl, by go_num, hide ⟨by have := HW.out.1; simp; omega, HN.out⟩⟩
        · obtain rfl : t = 4 := by omega
          have ht : ¬ (K : Int) < 5 := by have := HK.out; omega
          obtain ⟨q0, q1, q2, q3, hws⟩ := list_four HW.out.2.len
          subst hws
          have h9 := HW.out.2.lt
          have hsum : q0 + q1 + q2 + q3 = S := by have := HW.out.1; simp at this; omega
          obtain ⟨g, cap2, hrow⟩ := row_of HW.out.2.row (by simp)
          have hval := hrow.val
          cases hval
          have HRow := hide hrow
          have HG2 := hide HW.out.2.grown
          obtain ⟨hpos, hzero⟩ := fw_pos S hS
          have hl0 : q0 < 9 := h9 q0 (by simp)
          have hl1 : q1 < 9 := h9 q1 (by simp)
          have hl2 : q2 < 9 := h9 q2 (by simp)
          have hl3 : q3 < 9 := h9 q3 (by simp)
          clear hrow h9 HW
          go_wp2
          go_loopg [10] 4 (fun q k wr => ∃ t : Nat, q + t = 4 ∧ (t = 0 ∨ 0 < S) ∧ k = .int .i64 (t : Int) ∧ Hid (Row wr w1.heap.size (.slice (some ⟨g, 0, none⟩) 4 cc) g cc (mx [q0, q1, q2, q3] S t) ∧ w1.grownBy wr none))
          case atStart => exact ⟨0, by omega, .inl rfl, rfl, hide ⟨HRow.out, HG2.out⟩⟩
          case round =>
            clear HRow HG2
            obtain ⟨t, hqt, hts, rfl, HRw⟩ := hrel
            have HGg : Hid (w1.heap.size ≤ g) := hide HRw.out.1.low
            by_cases hgo : t < 4 ∧ 0 < S
            · obtain ⟨htl, hS0⟩ := hgo
              have ht : (t : Int) < 4 := by omega
              have hpos2 : (FloatKind.f64.format.order (fw S) 0 == some .gt) = true := by rw [hpos]; simpa using hS0
              have hc := HRw.out.1.cell t (by rw [mx_length]; exact htl)
              rw [mx_get _ _ _ _ _ htl] at hc
              have hfr := HRw.out.1.free t
              have hwt : [q0, q1, q2, q3].getD t 0 < 9 ∧ [q0, q1, q2, q3].getD t 0 ≤ S := by
                have : t = 0 ∨ t = 1 ∨ t = 2 ∨ t = 3 := by omega
                rcases this with rfl | rfl | rfl | rfl
                · exact ⟨hl0, show q0 ≤ S by omega⟩
                · exact ⟨hl1, show q1 ≤ S by omega⟩
                · exact ⟨hl2, show q2 ≤ S by omega⟩
                · exact ⟨hl3, show q3 ≤ S by omega⟩
              obtain ⟨hq, -⟩ := quo_facts hS hwt.1 hS0 hwt.2
              have hm := run_quo hq
              have HN := hide (And.intro (HRw.out.1.set t (qq ([q0, q1, q2, q3].getD t 0) S) (by rw [mx_length]; exact htl)) (grown_then HRw.out.2 (grown_setCell wr g t (.float .f64 (qq ([q0, q1, q2, q3].getD t 0) S))) (fun j e => .inl (by cases e; exact HGg.out))))
              have hmx : (mx [q0, q1, q2, q3] S t).set t (qq ([q0, q1, q2, q3].getD t 0) S) = mx [q0, q1, q2, q3] S (t + 1) := rfl
              rw [hmx] at HN
              have HS0 := hide hS0
              have HQT := hide (And.intro hqt htl)
              clear hq hwt hmx hpos hzero hsum
              generalize qq ([q0, q1, q2, q3].getD t 0) S = qt at *
              generalize fw ([q0, q1, q2, q3].getD t 0) = ft at *
              go_wp2
              go_roundg (gk - 1)
              case measure => have := HQT.out; omega
              case rel => exact ⟨t + 1, by have := HQT.out; omega, .inr HS0.out, by go_num, HN⟩
            · by_cases hS0 : 0 < S
              · obtain rfl : t = 4 := by omega
                have ht : ¬ ((4 : Nat) : Int) < 4 := by omega
                have hz2 : (FloatKind.f64.format.order (fw S) 0 == some .eq) = false := by rw [hzero]; simp; omega
                have hch : Ch [qq q0 S, qq q1 S, qq q2 S, qq q3 S] := ch_four (quo_facts hS hl0 hS0 (by omega)).2 (quo_facts hS hl1 hS0 (by omega)).2 (quo_facts hS hl2 hS0 (by omega)).2 (quo_facts hS hl3 hS0 (by omega)).2 hsum hS0
                have HCh := hide hch
                have HX : Hid (wr.ownsRow w1.heap.size 33 1 (.slice (some ⟨g, 0, none⟩) 4 cc) 4 (fv [qq q0 S, qq q1 S, qq q2 S, qq q3 S])) := hide HRw.out.1.own
                have HGX := hide (grown_trans HRw.out.2 (grown_alloc wr (.cells #[.float .f64 r, .slice (some ⟨g, 0, none⟩) 4 cc] 48)))
                clear hpos hzero hch hgo hts
                go_wp2_with (at_builtin; refine wpList_append_own _ rfl (.tmp 70) (.tmp 74) 22 rfl w.heap.size 48 i0 (.agg #[.float .f64 0, .slice none 0 0]) 2 32 Try.underlying22 HI.out.1 HI.out.2.1 HI.out.2.2.1 HI.out.2.2.2 rfl (by decide) (.slice pa L pc) L (fc pre) rfl (own_grownT HOwn.out HGX.out) ⟨wr.heap.size, 0, none⟩ 1 1 [.float .f64 r, .slice (some ⟨g, 0, none⟩) 4 cc] rfl rfl ?_ (by simp [Value.oneCell']) (by unfold maxLen; omega) (by omega) ?_ ?_)
                · have h1 := HS.out.2.grown.size; have h2 := HGX.out.size; simp at h2 ⊢; omega
                · intro v' w4 ho4 hg4 _
                  have hF := HS.out.2.next (cs := [qq q0 S, qq q1 S, qq q2 S, qq q3 S]) (by have := HS.out.1; omega) HR.out.1 HR.out.2 hd HCh.out HGX.out (own_grownT HX.out (grown_alloc wr _)) (by rw [HS.out.1]; exact ho4) hg4
                  obtain ⟨na, nc, hv'⟩ := own_form ho4
                  subst hv'
                  have HF := hide hF
                  clear hF ho4 hg4
                  go_wp2
                  go_roundg (og - 1)
                  case measure => omega
                  case rel => exact ⟨L + 1, I + 5, L + 1, nc, r, P - d, na, _, rfl, by omega, hide (by have := HIL.out; omega), rfl, rfl, by go_num, hide ⟨by rw [List.length_append, HS.out.1]; rfl, HF.out⟩⟩
              · obtain rfl : t = 0 := by omega
                obtain rfl : S = 0 := by omega
                have hpos2 : (FloatKind.f64.format.order (fw 0) 0 == some .gt) = false := by rw [hpos]; rfl
                have hz2 : (FloatKind.f64.format.order (fw 0) 0 == some .eq) = true := by rw [hzero]; rfl
                have HX : Hid ((wr.alloc (.cells #[.float .f64 4607182418800017408] 33)).ownsRow w1.heap.size 33 1 (.slice (some ⟨wr.heap.size, 0, none⟩) 1 1) 1 (fv [4607182418800017408])) := hide (own_new wr w1.heap.size [4607182418800017408] HRw.out.2.size (by simp))
                have HGX := hide (grown_trans (grown_trans HRw.out.2 (grown_alloc wr (.cells #[.float .f64 4607182418800017408] 33))) (grown_alloc _ (.cells #[.float .f64 r, .slice (some ⟨wr.heap.size, 0, none⟩) 1 1] 48)))
                clear hpos hzero hgo hts
                generalize fw 0 = f0 at *
                go_wp2_with (at_builtin; refine wpList_append_own _ rfl (.tmp 70) (.tmp 74) 22 rfl w.heap.size 48 i0 (.agg #[.float .f64 0, .slice none 0 0]) 2 32 Try.underlying22 HI.out.1 HI.out.2.1 HI.out.2.2.1 HI.out.2.2.2 rfl (by decide) (.slice pa L pc) L (fc pre) rfl (own_grownT HOwn.out HGX.out) ⟨wr.heap.size + 1, 0, none⟩ 1 1 [.float .f64 r, .slice (some ⟨wr.heap.size, 0, none⟩) 1 1] rfl rfl ?_ (by simp [Value.oneCell']) (by unfold maxLen; omega) (by omega) ?_ ?_)
                · have h := cell2_new (wr.alloc (.cells #[.float .f64 4607182418800017408] 33)) (.float .f64 r) (.slice (some ⟨wr.heap.size, 0, none⟩) 1 1) 48; rw [World.size_alloc] at h; exact h
                · have h1 := HS.out.2.grown.size; have h2 := HGX.out.size; simp at h2 ⊢; omega
                · intro v' w4 ho4 hg4 _
                  have hF := HS.out.2.next (cs := [4607182418800017408]) (by have := HS.out.1; omega) HR.out.1 HR.out.2 hd ch_one HGX.out (own_grownT HX.out (grown_alloc _ _)) (by rw [HS.out.1]; exact ho4) hg4
                  obtain ⟨na, nc, hv'⟩ := own_form ho4
                  subst hv'
                  have HF := hide hF
                  clear hF ho4 hg4
                  go_wp2
                  go_roundg (og - 1)
                  case measure => omega
                  case rel => exact ⟨L + 1, I + 5, L + 1, nc, r, P - d, na, _, rfl, by omega, hide (by have := HIL.out; omega), rfl, rfl, by go_num, hide ⟨by rw [List.length_append, HS.out.1]; rfl, HF.out⟩⟩
    · have HE := hide HS.out.2
      by_cases hI : I + 4 < n
      · have hI2 : (I : Int) + 4 < (n : Int) := by omega
        have hL2 : ¬ (L : Int) < 3 := by omega
        have hL0 : ((L : Int) == 0) = false := by simp; omega
        have HLL : Hid (1 ≤ pre.length ∧ pre.length ≤ 3) := hide (by have := HS.out.1; omega)
        go_wp2
        go_ret
        exact ⟨_, rfl, pre, HLL.out, HE.out.good, HE.out.rows, HE.out.grown⟩
      · have hI2 : ¬ (I : Int) + 4 < (n : Int) := by omega
        by_cases hL : L = 0
        · subst hL
          have HLe : Hid (pre.length = 0) := HS.out.1 |> hide
          have HX : Hid ((wr.alloc (.cells #[.float .f64 0, .float .f64 4607182418800017408] 33)).ownsRow wr.heap.size 33 1 (.slice (some ⟨wr.heap.size, 0, none⟩) 2 2) 2 (fv [0, 4607182418800017408])) := hide (own_new wr wr.heap.size [0, 4607182418800017408] (Nat.le_refl _) (by simp))
          have HGX := hide (grown_trans (grown_alloc wr (.cells #[.float .f64 0, .float .f64 4607182418800017408] 33)) (grown_alloc _ (.cells #[.float .f64 pw, .slice (some ⟨wr.heap.size, 0, none⟩) 2 2] 48)))
          go_wp2_with (at_builtin; refine wpList_append_own _ rfl (.tmp 79) (.tmp 83) 22 rfl w.heap.size 48 i0 (.agg #[.float .f64 0, .slice none 0 0]) 2 32 Try.underlying22 HI.out.1 HI.out.2.1 HI.out.2.2.1 HI.out.2.2.2 rfl (by decide) (.slice pa 0 pc) 0 (fc pre) rfl (own_grownT HOwn.out HGX.out) ⟨wr.heap.size + 1, 0, none⟩ 1 1 [.float .f64 pw, .slice (some ⟨wr.heap.size, 0, none⟩) 2 2] rfl rfl ?_ (by simp [Value.oneCell']) (by unfold maxLen; omega) (by omega) ?_ ?_)
          · have h1 := HS.out.2.grown.size; have h2 := HGX.out.size; simp at h2 ⊢; omega
          · intro v' w4 ho4 hg4 _
            have hF := HS.out.2.next (d := 0) (cs := [0, 4607182418800017408]) (by have := HS.out.1; omega) HE.out.nn HE.out.v (by omega) ch_two HGX.out (own_grownT HX.out (grown_alloc _ _)) (by rw [HS.out.1]; exact ho4) hg4
            obtain ⟨na, nc, hv'⟩ := own_form ho4
            subst hv'
            have HF := hide hF
            clear hF ho4 hg4
            go_wp2
            go_ret
            exact ⟨_, _, rfl, by rw [List.length_append, HS.out.1]; exact ⟨by simp, by simp⟩, HF.out.good, HF.out.rows, HF.out.grown⟩
        · have hL0 : ((L : Int) == 0) = false := by simp; omega
          have HLL : Hid (1 ≤ pre.length ∧ pre.length ≤ 3) := hide (by have := HS.out.1; omega)
          go_wp2
          go_ret
          exact ⟨_, rfl, pre, HLL.out, HE.out.good, HE.out.rows, HE.out.grown⟩
end Go.Proofs.Ytbebblhnhpdpjaa
