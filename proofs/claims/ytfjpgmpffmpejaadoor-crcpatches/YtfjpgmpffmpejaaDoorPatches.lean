/- The walk of CrcPatches. -/
import Derived.Test.YtfjpgmpffmpejaaDoorAwake
import Derived.Test.YtfjpgmpffmpejaaDoorRPatch
import Derived.Test.YtfjpgmpffmpejaaDoorApart2
namespace Go.Proofs.YtfjpgmpffmpejaaDoor
open Go.RowKit
attribute [local go_sem ↓] Go.wp_at_zero Go.wp_at_succ

theorem own_newer {w w1 : World} {B n m : Nat} {x y : Value} {xs ys : List Value} (hx : w.ownsRow B 5 1 x n xs) (hy : w1.ownsRow w.heap.size 5 1 y m ys) : x.ownBlock = none ∨ x.ownBlock ≠ y.ownBlock := by
  cases hb : x.ownBlock with
  | none => exact Or.inl rfl
  | some k =>
    right
    intro e
    have h1 := (hx.lt k hb).2
    have h2 := (hy.lt k e.symm).1
    omega
theorem apart_swap {x y : Value} (h : x.ownBlock = none ∨ x.ownBlock ≠ y.ownBlock) : y.ownBlock = none ∨ y.ownBlock ≠ x.ownBlock := by
  rcases h with h | h
  · cases hb : y.ownBlock with
    | none => exact Or.inl rfl
    | some k => right; rw [h]; simp
  · exact Or.inr (fun e => h e.symm)
/-- Two rows, as the lists that ApartBytes is handed. -/
theorem two_lists {w : World} {B n m : Nat} {x y : Value} {xs ys : List Value} (hB : B ≤ w.heap.size) (hx : w.ownsRow B 5 1 x n xs) (hy : w.ownsRow B 5 1 y m ys) (ha : x.ownBlock = none ∨ x.ownBlock ≠ y.ownBlock) :
    Fl (w.alloc (.cells #[x, y] 23)) B 2 (.slice (some ⟨w.heap.size, 0, none⟩) 2 2) (fun k => if k = 0 then x else y) (fun k => if k = 0 then n else m) (fun k => if k = 0 then xs else ys) := by
  refine ⟨?_, ?_, ?_⟩
  · exact World.ownsRow_lit w #[x, y] 2 hB (by unfold maxLen; omega) rfl
  · intro k hk
    have : k = 0 ∨ k = 1 := by omega
    rcases this with rfl | rfl
    · exact hx.alloc _
    · exact hy.alloc _
  · intro i k hi hk hik
    have h1 : i = 0 ∨ i = 1 := by omega
    have h2 : k = 0 ∨ k = 1 := by omega
    rcases h1 with rfl | rfl <;> rcases h2 with rfl | rfl
    · exact absurd rfl hik
    · exact ha
    · exact apart_swap ha
    · exact absurd rfl hik

set_option maxRecDepth 100000 in
set_option maxHeartbeats 1000000 in
theorem patches_good (ao : Option Addr) (n c at' want : Nat) (xs : List Nat) (w : World) (hT : Tab w) (hn : xs.length = n) (hx : Bytes xs) (hat : At w ao xs) (hnil : ao = none → n = 0 ∧ c = 0) (hnc : n ≤ c) (hm : n ≤ 140737488351232) (ha : at' + 4 ≤ n) (hwant : want < 4294967296) :
    Calls Tryd.prog 5 #[.slice ao n c, .int .i64 (at' : Int), .int .u32 (want : Int)] w fun e w' => e = .returned (.bool true) ∧ w.grownBy w' none := by
  have HT := hide hT
  have HX := hide (And.intro hn (And.intro hx (And.intro hat hnil)))
  have hlR : (patchL xs at' want).length = n := by rw [patchL_length, hn]
  have hP := fun (bo : Option Addr) (c : Nat) (w : World) (h : At w bo xs) (hnil : bo = none → n = 0 ∧ c = 0) (t : Tab w) => patch_any bo n c at' want xs w hn hx h hnil t (by omega) ha hwant
  have hQ := fun (w : World) (h : At w ao xs) => rpatch_any ao n c at' want xs w hn hx h hnil hnc (by omega) ha hwant
  generalize patchL xs at' want = R at *
  have HP := hide (And.intro hP (And.intro hQ hlR))
  clear hT hn hx hat hnil hP hQ hlR
  go_enter Tryd.func5, Tryd.ntmps5
  go_wp2_with fail
  obtain ⟨hn, hx, hb, hnb⟩ := HX.out
  refine (lent_any ao n c xs w hn hb hnb (by omega)).mono ?_
  rintro e w1 ⟨v, rfl, hL, hg1⟩
  obtain ⟨g, cap, rfl, hc1, hc2, hB, hlt, hall, cur, hcur, hcs⟩ := hL.all
  have hatx := hL.at
  obtain ⟨g', cap', e', -, -, -, -, hatx, -⟩ := hatx
  cases e'
  rw [hn] at hc1 ⊢
  have HL := hide (And.intro hall (And.intro hatx (And.intro ⟨cur, hcur, hcs⟩ hg1) : At w1 (some ⟨g, 0, none⟩) xs ∧ (∃ cur, w1.heap[g]? = some (.cells cur 5 (0, 0)) ∧ cur.size = cap) ∧ w.grownBy w1 none))
  clear hn hx hb hnb hL hall hatx hcur hcs hg1
  go_wp2_with fail
  refine (HP.out.1 (some ⟨g, 0, none⟩) cap w1 HL.out.2.1 (fun e => by cases e) (HT.out.grown HL.out.2.2.2)).mono ?_
  rintro e w2 ⟨x, rfl, hox, hg2⟩
  obtain ⟨ax, cx, rfl, -⟩ := own_at hox
  have H2 := hide (And.intro hox (grown_trans HL.out.2.2.2 hg2))
  have H2g := hide hg2
  have S12 : w1.heap.size ≤ w2.heap.size := hg2.size
  clear hox hg2
  go_wp2_with fail
  refine (HP.out.1 (some ⟨g, 0, none⟩) cap w2 (HL.out.2.1.grown H2g.out) (fun e => by cases e) (HT.out.grown H2.out.2)).mono ?_
  rintro e w3 ⟨y, rfl, hoy, hg3⟩
  obtain ⟨ay, cy, rfl, -⟩ := own_at hoy
  have H3 := hide (And.intro (H2.out.1.kept hg3 (by cases (Value.slice ax n cx).ownBlock <;> simp)) (And.intro hoy (And.intro (own_newer H2.out.1 hoy) (grown_trans H2.out.2 hg3))))
  have H3g := hide (grown_trans H2g.out hg3)
  clear hoy hg3 H2 H2g
  go_wp2_with fail
  refine (HP.out.2.1 w3 (HX.out.2.2.1.grown H3.out.2.2.2)).mono ?_
  rintro e w4 ⟨z, rfl, hoz, hg4⟩
  obtain ⟨az, cz, rfl, -, -, -, hatz, -⟩ := own_at hoz
  obtain ⟨ax2, cx2, ex, -, -, -, hatx3, -⟩ := own_at H3.out.1
  cases ex
  obtain ⟨ay2, cy2, ey, -, -, -, haty3, -⟩ := own_at H3.out.2.1
  cases ey
  have H4 : Hid (At w4 ax R ∧ At w4 ay R ∧ At w4 az R ∧ w4.ownsRow w1.heap.size 5 1 (.slice ax n cx) n (bv R) ∧ w4.ownsRow w1.heap.size 5 1 (.slice ay n cy) n (bv R) ∧ ((Value.slice ax n cx).ownBlock = none ∨ (Value.slice ax n cx).ownBlock ≠ (Value.slice ay n cy).ownBlock) ∧ w.grownBy w4 none ∧ w1.grownBy w4 none ∧ (∀ k, (Value.slice az n cz).ownBlock = some k → w1.heap.size ≤ k)) := by
    refine ⟨hatx3.grown hg4, haty3.grown hg4, hatz, H3.out.1.kept hg4 (by cases (Value.slice ax n cx).ownBlock <;> simp), (ownsRow_le H3.out.2.1 ?_).kept hg4 (by cases (Value.slice ay n cy).ownBlock <;> simp), H3.out.2.2.1, grown_trans H3.out.2.2.2 hg4, grown_trans H3g.out hg4, fun k e => ?_⟩
    · exact S12
    · exact Nat.le_trans H3g.out.size (hoz.lt k e).1
  clear hoz hg4 hatz hatx3 haty3 H3 H3g S12
  go_wp2_with fail
  refine (sameBytes_eq ax az n cx cz R w4 HP.out.2.2 H4.out.1 H4.out.2.2.1 (by omega)).mono ?_
  rintro e w5 ⟨rfl, hg5⟩
  have G5 := hide hg5
  clear hg5
  go_wp2_with fail
  refine (sameBytes_eq ay az n cy cz R w5 HP.out.2.2 (H4.out.2.1.grown G5.out) (H4.out.2.2.1.grown G5.out) (by omega)).mono ?_
  rintro e w6 ⟨rfl, hg6⟩
  have G6 := hide (grown_trans G5.out hg6)
  clear hg6 G5
  go_wp2_with fail
  have G16 := hide (grown_trans H4.out.2.2.2.2.2.2.2.1 G6.out)
  refine (kept_any g cap ao n c xs w6 HX.out.1 hc1 hc2 (HL.out.1.grown G16.out) (HX.out.2.2.1.grown (grown_trans H4.out.2.2.2.2.2.2.1 G6.out)) (by omega)).mono ?_
  rintro e w7 ⟨rfl, hg7⟩
  have G7 := hide (grown_trans G6.out hg7)
  have G17 := hide (grown_trans G16.out hg7)
  clear hg7 G6 G16
  go_wp2_with fail
  have hcur7 : ∃ cur, w7.heap[g]? = some (.cells cur 5 (0, 0)) ∧ cur.size = cap := by
    obtain ⟨cur, h1, h2⟩ := HL.out.2.2.1
    exact ⟨cur, (G17.out.block g hlt (by simp)).trans h1, h2⟩
  refine (over_any g cap n w7 hcur7 hc1 hc2 (by omega)).mono ?_
  rintro e w8 ⟨rfl, hg8⟩
  obtain ⟨-, h2, h3, h4, h5, h6, h7, -, h9⟩ := H4.out
  have nx : (Value.slice ax n cx).ownBlock = none ∨ (Value.slice ax n cx).ownBlock ≠ some g := Or.inr (fun e => by have := (h4.lt g e).1; omega)
  have ny : (Value.slice ay n cy).ownBlock = none ∨ (Value.slice ay n cy).ownBlock ≠ some g := Or.inr (fun e => by have := (h5.lt g e).1; omega)
  have hx8 : w8.ownsRow w1.heap.size 5 1 (.slice ax n cx) n (bv R) := (h4.kept G7.out (by cases (Value.slice ax n cx).ownBlock <;> simp)).kept hg8 nx
  have hy8 : w8.ownsRow w1.heap.size 5 1 (.slice ay n cy) n (bv R) := (h5.kept G7.out (by cases (Value.slice ay n cy).ownBlock <;> simp)).kept hg8 ny
  have hatz8 : At w8 az R := (h3.grown G7.out).kept hg8 (fun a e => by
    intro e2
    have := h9 g (by rw [e]; exact e2)
    omega)
  have hG8 : w.grownBy w8 none := grown_then (grown_trans h7 G7.out) hg8 (fun k e => by cases e; exact Or.inl hB)
  have hsz8 : w1.heap.size ≤ w8.heap.size := Nat.le_trans G17.out.size hg8.size
  have H8 := hide (And.intro hx8 (And.intro hy8 (And.intro hatz8 (And.intro hG8 h6))))
  clear hcur7 hg8 h2 h3 h4 h5 h6 h7 h9 nx ny hx8 hy8 hatz8 hG8 H4 G7 G17
  go_wp2_with fail
  obtain ⟨ay2, cy2, ey, -, -, -, haty8, -⟩ := own_at H8.out.2.1
  cases ey
  refine (sameBytes_eq ay az n cy cz R w8 HP.out.2.2 haty8 H8.out.2.2.1 (by omega)).mono ?_
  rintro e w9 ⟨rfl, hg9⟩
  have H9 := hide (And.intro (H8.out.1.kept hg9 (by cases (Value.slice ax n cx).ownBlock <;> simp)) (And.intro (H8.out.2.1.kept hg9 (by cases (Value.slice ay n cy).ownBlock <;> simp)) (And.intro (grown_trans H8.out.2.2.2.1 hg9) H8.out.2.2.2.2)))
  have hsz9 : w1.heap.size ≤ w9.heap.size := Nat.le_trans hsz8 hg9.size
  clear haty8 hg9 H8 hsz8
  go_wp2_with fail
  have hsw : w.heap.size ≤ w1.heap.size := HL.out.2.2.2.size
  refine (apartBytes_any w1.heap.size 2 w9.heap.size 2 _ _ _ w _ (two_lists hsz9 H9.out.1 H9.out.2.1 H9.out.2.2.2) (grown_trans H9.out.2.2.1 (World.grownBy_alloc w9 _ none)) hsw (by decide) (by decide) (fun k _ => by show (if k = 0 then n else n) ≤ _; split <;> omega) (by simp; omega)).mono ?_
  rintro e w10 ⟨rfl, hg10⟩
  have G10 := hide hg10
  clear hg10 H9
  go_wp2_with fail
  refine (awake_any _ (HT.out.grown G10.out)).mono ?_
  rintro e w11 ⟨rfl, hg11⟩
  have G11 := hide (grown_trans G10.out hg11)
  clear hg11
  go_wp2
  go_ret
  exact ⟨rfl, G11.out⟩

set_option maxRecDepth 100000 in
set_option maxHeartbeats 1000000 in
theorem patches_bad (ao : Option Addr) (n c : Nat) (p : Int) (want : Nat) (xs : List Nat) (w : World) (hT : Tab w) (hn : xs.length = n) (hat : At w ao xs) (hnil : ao = none → n = 0 ∧ c = 0) (hm : n ≤ 140737488351232) (hp : p < 0 ∨ (n : Int) - 4 < p) :
    Calls Tryd.prog 5 #[.slice ao n c, .int .i64 p, .int .u32 (want : Int)] w fun e w' => e = .returned (.bool true) ∧ w.grownBy w' none := by
  have HT := hide hT
  have HX := hide (And.intro hn (And.intro hat hnil))
  have HP := hide hp
  clear hT hn hat hnil hp
  go_enter Tryd.func5, Tryd.ntmps5
  go_wp2_with fail
  obtain ⟨hn, hb, hnb⟩ := HX.out
  refine (lent_any ao n c xs w hn hb hnb (by omega)).mono ?_
  rintro e w1 ⟨v, rfl, hL, hg1⟩
  obtain ⟨g, cap, rfl, hc1, hc2, hB, hlt, hall, cur, hcur, hcs⟩ := hL.all
  rw [hn] at hc1 ⊢
  have HL := hide (And.intro hall (And.intro ⟨cur, hcur, hcs⟩ hg1 : (∃ cur, w1.heap[g]? = some (.cells cur 5 (0, 0)) ∧ cur.size = cap) ∧ w.grownBy w1 none))
  clear hn hb hnb hL hall hcur hcs hg1
  go_wp2_with fail
  refine (patch_bad (some ⟨g, 0, none⟩) n cap p (want : Int) w1 HP.out (by omega)).mono ?_
  rintro e w2 ⟨rfl, rfl⟩
  go_wp2_with fail
  refine (patch_bad (some ⟨g, 0, none⟩) n cap p (want : Int) w2 HP.out (by omega)).mono ?_
  rintro e w3 ⟨rfl, rfl⟩
  go_wp2_with fail
  refine (rpatch_bad ao n c p (want : Int) w3 HP.out (by omega)).mono ?_
  rintro e w4 ⟨rfl, rfl⟩
  go_wp2_with fail
  refine (sameBytes_eq none none 0 0 0 [] w4 rfl (At.nil _ _) (At.nil _ _) (by decide)).mono ?_
  rintro e w5 ⟨rfl, hg5⟩
  have G5 := hide hg5
  clear hg5
  go_wp2_with fail
  refine (sameBytes_eq none none 0 0 0 [] w5 rfl (At.nil _ _) (At.nil _ _) (by decide)).mono ?_
  rintro e w6 ⟨rfl, hg6⟩
  have G6 := hide (grown_trans G5.out hg6)
  clear hg6 G5
  go_wp2_with fail
  refine (kept_any g cap ao n c xs w6 HX.out.1 hc1 hc2 (HL.out.1.grown G6.out) (HX.out.2.1.grown (grown_trans HL.out.2.2 G6.out)) (by omega)).mono ?_
  rintro e w7 ⟨rfl, hg7⟩
  have G7 := hide (grown_trans G6.out hg7)
  clear hg7 G6
  go_wp2_with fail
  have hcur7 : ∃ cur, w7.heap[g]? = some (.cells cur 5 (0, 0)) ∧ cur.size = cap := by
    obtain ⟨cur, h1, h2⟩ := HL.out.2.1
    exact ⟨cur, (G7.out.block g hlt (by simp)).trans h1, h2⟩
  refine (over_any g cap n w7 hcur7 hc1 hc2 (by omega)).mono ?_
  rintro e w8 ⟨rfl, hg8⟩
  have hG8 := hide (grown_then (grown_trans HL.out.2.2 G7.out) hg8 (fun k e => by cases e; exact Or.inl hB) : w.grownBy w8 none)
  clear hcur7 hg8 G7
  go_wp2_with fail
  refine (sameBytes_eq none none 0 0 0 [] w8 rfl (At.nil _ _) (At.nil _ _) (by decide)).mono ?_
  rintro e w9 ⟨rfl, hg9⟩
  have G9 := hide (grown_trans hG8.out hg9)
  clear hg9 hG8
  go_wp2_with fail
  refine (apartBytes_any w9.heap.size 2 w9.heap.size 2 _ _ _ w _ (two_lists (Nat.le_refl _) (World.ownsRow_nil w9 w9.heap.size 5 1) (World.ownsRow_nil w9 w9.heap.size 5 1) (Or.inl rfl)) (grown_trans G9.out (World.grownBy_alloc w9 _ none)) G9.out.size (by decide) (by decide) (fun k _ => by show (if k = 0 then 0 else 0) ≤ _; split <;> omega) (by simp)).mono ?_
  rintro e w10 ⟨rfl, hg10⟩
  have G10 := hide hg10
  clear hg10
  go_wp2_with fail
  refine (awake_any _ (HT.out.grown G10.out)).mono ?_
  rintro e w11 ⟨rfl, hg11⟩
  have G11 := hide (grown_trans G10.out hg11)
  clear hg11
  go_wp2
  go_ret
  exact ⟨rfl, G11.out⟩

/-- At every place. -/
theorem patches_any (ao : Option Addr) (n c : Nat) (p : Int) (want : Nat) (xs : List Nat) (w : World) (hT : Tab w) (hn : xs.length = n) (hx : Bytes xs) (hat : At w ao xs) (hnil : ao = none → n = 0 ∧ c = 0) (hnc : n ≤ c) (hm : n ≤ 140737488351232) (hwant : want < 4294967296) :
    Calls Tryd.prog 5 #[.slice ao n c, .int .i64 p, .int .u32 (want : Int)] w fun e w' => e = .returned (.bool true) ∧ w.grownBy w' none := by
  by_cases h : p < 0 ∨ (n : Int) - 4 < p
  · exact patches_bad ao n c p want xs w hT hn hat hnil hm h
  · obtain ⟨at', rfl⟩ : ∃ at' : Nat, p = (at' : Int) := ⟨p.toNat, by omega⟩
    exact patches_good ao n c at' want xs w hT hn hx hat hnil hnc hm (by omega) hwant
end Go.Proofs.YtfjpgmpffmpejaaDoor
