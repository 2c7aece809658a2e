/- BitsReads, walked. -/
import Derived.Test.YtajdgkbeenalkaaDoorIs
import Derived.Test.YtajdgkbeenalkaaDoorRefOf
import Derived.Test.YtajdgkbeenalkaaDoorLent
namespace Go.Proofs.YtajdgkbeenalkaaDoor
open Go.RowKit Go.Shelf
attribute [local go_sem ↓] Go.wp_at_zero Go.wp_at_succ

def castL (xs : List Nat) : List Int := xs.map fun (x : Nat) => (x : Int)
def byteV (xs : List Nat) : List Value := xs.map fun (x : Nat) => Value.int .u8 (x : Int)
theorem castL_length (xs : List Nat) : (castL xs).length = xs.length := by simp [castL]
theorem atV_of_at {w : World} {ao : Option Addr} {xs : List Nat} (h : At w ao (castL xs)) : AtV w ao (byteV xs) := by
  intro j u hu
  rw [byteV, List.getElem?_map] at hu
  cases hj : xs[j]? with
  | none => simp [hj] at hu
  | some x =>
    simp [hj] at hu
    obtain ⟨a, h1, h2⟩ := h j (x : Int) (by simp [castL, hj])
    exact ⟨a, h1, by rw [h2, ← hu]⟩

theorem RefAt.kept5 {w w' : World} {d r k : Nat} {t : Bool} {L : List Bool} (h : RefAt w d r t L) (hg : w.grownBy w' (some k)) {cur : Array Value} (hk : w.heap[k]? = some (.cells cur 5 (0, 0))) : RefAt w' d r t L := by
  obtain ⟨ao, cap, h1, h2, h3⟩ := h
  refine ⟨ao, cap, (hg.block d (row_lt h1) (fun e => by cases e; rw [h1] at hk; simp at hk)).trans h1, h2, ?_⟩
  rcases h3 with h3 | ⟨cur, h4, h5, h6⟩
  · exact Or.inl h3
  · exact Or.inr ⟨cur, h4, (hg.block r (row_lt h5) (fun e => by cases e; rw [h5] at hk; simp at hk)).trans h5, h6⟩
theorem SetAt.kept5 {w w' : World} {b g k : Nat} {L : List Bool} (h : SetAt w b g L) (hg : w.grownBy w' (some k)) {cur : Array Value} (hk : w.heap[k]? = some (.cells cur 5 (0, 0))) : SetAt w' b g L := by
  obtain ⟨W, cap, cu, h1, h2, h3⟩ := h
  exact ⟨W, cap, cu, (hg.block b (row_lt h1) (fun e => by cases e; rw [h1] at hk; simp at hk)).trans h1, (hg.block g (row_lt h2) (fun e => by cases e; rw [h2] at hk; simp at hk)).trans h2, h3⟩
theorem At.left {w : World} {ao : Option Addr} {xs ys : List Int} (h : At w ao (xs ++ ys)) : At w ao xs := fun j u hu => h j u (by rw [List.getElem?_append_left (List.getElem?_eq_some_iff.1 hu).1]; exact hu)

set_option maxRecDepth 100000 in
set_option maxHeartbeats 2000000 in
theorem reads_no (n : Int) (ao : Option Addr) (m cap : Nat) (xs : List Nat) (w : World) (c : Int) (hT : Tab w) (hxs : xs.length = m) (hat : At w ao (castL xs)) (hnil : ao = none → m = 0 ∧ cap = 0) (hb : m ≤ 140737488355000)
    (h1 : ∀ w' a' c', 0 < w'.heap.size → AtV w' a' (byteV xs) → Calls Tryd.prog 20 #[.int .i64 n, .slice a' m c'] w' fun e w'' => e = .returned (.tuple #[.pointer none, .int .i64 c]) ∧ w'.grownBy w'' none)
    (h2 : ∀ w' a' c', AtV w' a' (byteV xs) → Calls Tryd.prog 21 #[.int .i64 n, .slice a' m c'] w' fun e w'' => ∃ d r, e = .returned (.tuple #[.pointer (some ⟨d, 0, none⟩), .int .i64 c]) ∧ RefAt w'' d r false [] ∧ w'.grownBy w'' none) :
    Calls Tryd.prog 4 #[.int .i64 n, .slice ao m cap] w fun e w' => e = .returned (.bool true) ∧ w.grownBy w' none := by
  have H := hide (And.intro hT (And.intro hat (And.intro hxs (And.intro h1 h2))))
  clear hT hat hxs h1 h2
  go_enter Tryd.func4, Tryd.ntmps4
  go_wp2_with fail
  refine (awake_any w H.out.1).mono ?_
  rintro e w1 ⟨rfl, hg1⟩
  have H1 := hide (And.intro (H.out.2.1.kept hg1 (by simp)) (And.intro (H.out.1.kept hg1 (by simp)) hg1))
  clear hg1
  go_wp2_with fail
  refine (lent_any ao m cap (castL xs) w1 (by rw [castL_length]; exact H.out.2.2.1) H1.out.1 hnil hb).mono ?_
  rintro e w2 ⟨v, rfl, hL, hg2⟩
  obtain ⟨g, cp, rfl, hc1, hc2, hbg, hgl, hrest⟩ := hL.all
  have hlen : (castL xs).length = m := by rw [castL_length]; exact H.out.2.2.1
  rw [hlen] at hc1 hL ⊢
  clear hlen
  obtain ⟨hA, cur, hcur, hcs⟩ := hrest
  have H2 := hide (And.intro (H1.out.1.kept hg2 (by simp)) (And.intro (H1.out.2.1.kept hg2 (by simp)) (And.intro (grown_trans H1.out.2.2 hg2) (And.intro hA hcur))))
  have hgw : w.heap.size ≤ g := Nat.le_trans H1.out.2.2.size hbg
  clear hL hA hcur hg2 H1
  go_wp2_with fail
  refine (H.out.2.2.2.1 w2 _ cp H2.out.2.1.lt (atV_of_at H2.out.2.2.2.1.left)).mono ?_
  rintro e w3 ⟨rfl, hg3⟩
  have H3 := hide (And.intro (H2.out.1.kept hg3 (by simp)) (And.intro (H2.out.2.1.kept hg3 (by simp)) (And.intro (grown_trans H2.out.2.2.1 hg3) (And.intro (H2.out.2.2.2.1.kept hg3 (by simp)) ((hg3.block g (row_lt H2.out.2.2.2.2) (by simp)).trans H2.out.2.2.2.2)))))
  clear hg3 H2
  go_wp2_with fail
  refine (H.out.2.2.2.2 w3 _ cap (atV_of_at H3.out.1)).mono ?_
  rintro e w4 ⟨d, r, rfl, hR, hg4⟩
  have H4 := hide (And.intro (H3.out.1.kept hg4 (by simp)) (And.intro hR (And.intro (grown_trans H3.out.2.2.1 hg4) (And.intro (H3.out.2.2.2.1.kept hg4 (by simp)) ((hg4.block g (row_lt H3.out.2.2.2.2) (by simp)).trans H3.out.2.2.2.2)))))
  clear hg4 H3 hR
  go_wp2_with fail
  refine (kept_any g cp ao m cap (castL xs) w4 (by rw [castL_length]; exact H.out.2.2.1) hc1 hc2 H4.out.2.2.2.1 H4.out.1 (by omega)).mono ?_
  rintro e w5 ⟨rfl, hg5⟩
  have H5 := hide (And.intro (H4.out.2.1.grown hg5) (And.intro (grown_trans H4.out.2.2.1 hg5) ((hg5.block g (row_lt H4.out.2.2.2.2) (by simp)).trans H4.out.2.2.2.2)))
  clear hg5 H4
  go_wp2_with fail
  refine (over_any g cp m w5 ⟨cur, H5.out.2.2, hcs⟩ hc1 hc2 (by omega)).mono ?_
  rintro e w6 ⟨rfl, hg6⟩
  have H6 := hide (And.intro (H5.out.1.kept5 hg6 H5.out.2.2) (grown_then H5.out.2.1 hg6 (fun k e => by cases e; exact Or.inl hgw)))
  clear hg6 H5
  have hth := H6.out.1.there
  go_wp2
  go_ret
  exact ⟨rfl, H6.out.2⟩

set_option maxRecDepth 100000 in
set_option maxHeartbeats 2000000 in
theorem reads_yes (n : Int) (ao : Option Addr) (m cap : Nat) (xs : List Nat) (w : World) (L : List Bool) (hT : Tab w) (hxs : xs.length = m) (hat : At w ao (castL xs)) (hnil : ao = none → m = 0 ∧ cap = 0) (hb : m ≤ 140737488355000)
    (h1 : ∀ w' a' c', 0 < w'.heap.size → AtV w' a' (byteV xs) → Calls Tryd.prog 20 #[.int .i64 n, .slice a' m c'] w' fun e w'' => ∃ b g, e = .returned (.tuple #[.pointer (some ⟨b, 0, none⟩), .int .i64 0]) ∧ SetAt w'' b g L ∧ w'.grownBy w'' none)
    (h2 : ∀ w' a' c', AtV w' a' (byteV xs) → Calls Tryd.prog 21 #[.int .i64 n, .slice a' m c'] w' fun e w'' => ∃ d r, e = .returned (.tuple #[.pointer (some ⟨d, 0, none⟩), .int .i64 0]) ∧ RefAt w'' d r true L ∧ w'.grownBy w'' none) :
    Calls Tryd.prog 4 #[.int .i64 n, .slice ao m cap] w fun e w' => e = .returned (.bool true) ∧ w.grownBy w' none := by
  have H := hide (And.intro hT (And.intro hat (And.intro hxs (And.intro h1 h2))))
  clear hT hat hxs h1 h2
  go_enter Tryd.func4, Tryd.ntmps4
  go_wp2_with fail
  refine (awake_any w H.out.1).mono ?_
  rintro e w1 ⟨rfl, hg1⟩
  have H1 := hide (And.intro (H.out.2.1.kept hg1 (by simp)) (And.intro (H.out.1.kept hg1 (by simp)) hg1))
  clear hg1
  go_wp2_with fail
  refine (lent_any ao m cap (castL xs) w1 (by rw [castL_length]; exact H.out.2.2.1) H1.out.1 hnil hb).mono ?_
  rintro e w2 ⟨v, rfl, hL, hg2⟩
  obtain ⟨g, cp, rfl, hc1, hc2, hbg, hgl, hrest⟩ := hL.all
  have hlen : (castL xs).length = m := by rw [castL_length]; exact H.out.2.2.1
  rw [hlen] at hc1 hL ⊢
  clear hlen
  obtain ⟨hA, cur, hcur, hcs⟩ := hrest
  have H2 := hide (And.intro (H1.out.1.kept hg2 (by simp)) (And.intro (H1.out.2.1.kept hg2 (by simp)) (And.intro (grown_trans H1.out.2.2 hg2) (And.intro hA hcur))))
  have hgw : w.heap.size ≤ g := Nat.le_trans H1.out.2.2.size hbg
  clear hL hA hcur hg2 H1
  go_wp2_with fail
  refine (H.out.2.2.2.1 w2 _ cp H2.out.2.1.lt (atV_of_at H2.out.2.2.2.1.left)).mono ?_
  rintro e w3 ⟨b, gs, rfl, hS, hg3⟩
  have H3 := hide (And.intro (H2.out.1.kept hg3 (by simp)) (And.intro (H2.out.2.1.kept hg3 (by simp)) (And.intro (grown_trans H2.out.2.2.1 hg3) (And.intro (H2.out.2.2.2.1.kept hg3 (by simp)) ((hg3.block g (row_lt H2.out.2.2.2.2) (by simp)).trans H2.out.2.2.2.2)))))
  have S3 := hide hS
  clear hg3 H2 hS
  go_wp2_with fail
  refine (H.out.2.2.2.2 w3 _ cap (atV_of_at H3.out.1)).mono ?_
  rintro e w4 ⟨d, r, rfl, hR, hg4⟩
  have H4 := hide (And.intro (H3.out.1.kept hg4 (by simp)) (And.intro hR (And.intro (grown_trans H3.out.2.2.1 hg4) (And.intro (H3.out.2.2.2.1.kept hg4 (by simp)) ((hg4.block g (row_lt H3.out.2.2.2.2) (by simp)).trans H3.out.2.2.2.2)))))
  have S4 := hide (And.intro (S3.out.kept hg4 (by simp) (by simp)) ((H3.out.2.1.kept hg4 (by simp))))
  clear hg4 H3 hR S3
  go_wp2_with fail
  refine (kept_any g cp ao m cap (castL xs) w4 (by rw [castL_length]; exact H.out.2.2.1) hc1 hc2 H4.out.2.2.2.1 H4.out.1 (by omega)).mono ?_
  rintro e w5 ⟨rfl, hg5⟩
  have H5 := hide (And.intro (H4.out.2.1.grown hg5) (And.intro (grown_trans H4.out.2.2.1 hg5) ((hg5.block g (row_lt H4.out.2.2.2.2) (by simp)).trans H4.out.2.2.2.2)))
  have S5 := hide (And.intro (S4.out.1.kept hg5 (by simp) (by simp)) (S4.out.2.kept hg5 (by simp)))
  clear hg5 H4 S4
  go_wp2_with fail
  refine (over_any g cp m w5 ⟨cur, H5.out.2.2, hcs⟩ hc1 hc2 (by omega)).mono ?_
  rintro e w6 ⟨rfl, hg6⟩
  have H6 := hide (And.intro (H5.out.1.kept5 hg6 H5.out.2.2) (grown_then H5.out.2.1 hg6 (fun k e => by cases e; exact Or.inl hgw)))
  have S6 := hide (And.intro (S5.out.1.kept5 hg6 H5.out.2.2) (S5.out.2.kept hg6 (by simp only [ne_eq, Option.some.injEq]; have := H.out.1.lt; omega)))
  clear hg6 H5 S5
  have hth := H6.out.1.there
  go_wp2_with fail
  refine (is_any b gs d r L w6 S6.out.1 H6.out.1 S6.out.2).mono ?_
  rintro e w7 ⟨rfl, hg7⟩
  have G7 := hide (grown_trans H6.out.2 hg7)
  clear hg7
  go_wp2
  go_ret
  exact ⟨rfl, G7.out⟩


theorem reads_any (n : Int) (ao : Option Addr) (m cap : Nat) (xs : List Nat) (w : World) (hT : Tab w) (hx : ∀ x ∈ xs, x < 256) (hxs : xs.length = m) (hat : At w ao (castL xs)) (hnil : ao = none → m = 0 ∧ cap = 0) (hb : m ≤ 140737488355000) :
    Calls Tryd.prog 4 #[.int .i64 n, .slice ao m cap] w fun e w' => e = .returned (.bool true) ∧ w.grownBy w' none := by
  by_cases hn : n < 0 ∨ 65536 < n
  · refine reads_no n ao m cap xs w 2 hT hxs hat hnil hb (fun w' a' c' _ _ => (of_bad n a' m c' w' hn).mono ?_) (fun w' a' c' _ => rof_bad n a' m c' w' hn)
    rintro e w'' ⟨rfl, rfl⟩
    exact ⟨rfl, grown_refl _ _⟩
  · obtain ⟨k, rfl⟩ := Int.eq_ofNat_of_zero_le (show 0 ≤ n by omega)
    have hk : k ≤ 65536 := by omega
    by_cases hm : m = (k + 7) / 8
    · by_cases hmore : ∀ i, k ≤ i → bitB xs i = false
      · refine reads_yes (k : Int) ao m cap xs w (ofL xs k) hT hxs hat hnil hb (fun w' a' c' hw ha => (of_any k hk a' m c' xs w' hw hxs hm hx ha hmore).mono ?_) (fun w' a' c' ha => (rof_loop k hk a' m c' xs w' hxs hm hx ha).mono ?_)
        · rintro e w'' ⟨b, g, h1, h2, _, _, h5⟩
          exact ⟨b, g, h1, h2, h5⟩
        · rintro e w'' ⟨d, r, ⟨_, h1, h2, _, _, h5⟩ | ⟨h0, _⟩⟩
          · exact ⟨d, r, h1, h2, h5⟩
          · exact absurd hmore h0
      · refine reads_no (k : Int) ao m cap xs w 5 hT hxs hat hnil hb (fun w' a' c' hw ha => of_more k hk a' m c' xs w' hw hxs hm hx ha hmore) (fun w' a' c' ha => (rof_loop k hk a' m c' xs w' hxs hm hx ha).mono ?_)
        rintro e w'' ⟨d, r, ⟨h0, _⟩ | ⟨_, h1, h2, h3⟩⟩
        · exact absurd h0 hmore
        · exact ⟨d, r, h1, h2, h3⟩
    · exact reads_no (k : Int) ao m cap xs w 3 hT hxs hat hnil hb (fun w' a' c' hw _ => of_long k hk a' m c' w' hw hm) (fun w' a' c' _ => rof_long k hk a' m c' w' hm)

end Go.Proofs.YtajdgkbeenalkaaDoor
