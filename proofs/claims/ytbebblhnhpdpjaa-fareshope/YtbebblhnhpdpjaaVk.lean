/- Fares: the statements' own helpers; the program is awake. -/
import Derived.Test.YtbebblhnhpdpjaaVj
namespace Go.Proofs.Ytbebblhnhpdpjaa
open Go.RowKit
attribute [local go_sem ↓] Go.wp_at_zero Go.wp_at_succ
attribute [local go_sem] run_store_float

theorem At.take {w : World} {ao : Option Addr} {xs : List Nat} (h : At w ao xs) {j : Nat} (hj : j < xs.length) : ∃ a, ao = some a ∧ w.cell? (a.add j) = some (.float .f64 (xs.getD j 0)) :=
  h j _ (by rw [List.getD_eq_getElem?_getD, List.getElem?_eq_getElem hj]; rfl)
theorem AtI.take {w : World} {ao : Option Addr} {xs : List Nat} (h : AtI w ao xs) {j : Nat} (hj : j < xs.length) : ∃ a, ao = some a ∧ w.cell? (a.add j) = some (.int .i64 ((xs.getD j 0 : Nat) : Int)) :=
  h j _ (by rw [List.getD_eq_getElem?_getD, List.getElem?_eq_getElem hj]; rfl)

theorem bits_any (x : Nat) (w : World) : Calls Try.prog 22 #[.float .f64 x, .float .f64 x] w fun e w' => e = .returned (.bool true) ∧ w' = w := by
  have hb := run_bits x
  go_enter Try.func22, Try.ntmps22
  go_wp2
  go_ret
  exact ⟨rfl, rfl⟩

set_option maxHeartbeats 1000000 in
theorem same_eq (ao bo : Option Addr) (n c d : Nat) (xs : List Nat) (w : World) (hn : n = xs.length) (ha : At w ao xs) (hb : At w bo xs) (hm : n ≤ 4611686018427387904) :
    Calls Try.prog 20 #[.slice ao n c, .slice bo n d] w fun e w' => e = .returned (.bool true) ∧ w.grownBy w' none := by
  have HA := hide (And.intro hn (And.intro ha hb))
  clear hn ha hb
  go_enter Try.func20, Try.ntmps20
  go_wp2
  go_loopg [5] n (fun k i wr => ∃ j : Nat, k + j = n ∧ i = .int .i64 j ∧ w.grownBy wr none)
  case atStart => exact ⟨0, by omega, rfl, grown_refl _ _⟩
  case round =>
    obtain ⟨j, hkj, rfl, hg⟩ := hrel
    by_cases hk : 0 < gk
    · obtain ⟨hn, ha, hb⟩ := HA.out
      have hj : j < xs.length := by omega
      obtain ⟨a, rfl, hca⟩ := ha.take hj
      obtain ⟨b, rfl, hcb⟩ := hb.take hj
      have hca' := hg.cell hca (by simp)
      have hcb' := hg.cell hcb (by simp)
      have h1 : (0 : Int) ≤ (j : Int) := by omega
      have h2 : (j : Int) < (n : Int) := by omega
      generalize xs.getD j 0 = x at *
      have hbx := run_bits x
      clear hn ha hb hca hcb hj
      go_wp2
      go_quiet (exact Calls.quiet_of_same (bits_any x _))
      go_wp2
      go_roundg (gk - 1)
      case measure => omega
      case rel => exact ⟨j + 1, by omega, by go_num, grown_trans hg (grown_drewN _ _)⟩
    · have hj : j = n := by omega
      subst hj
      go_wp2
      go_ret
      exact ⟨rfl, hg⟩
set_option maxHeartbeats 1000000 in
theorem sameI_eq (ao bo : Option Addr) (n c d : Nat) (xs : List Nat) (w : World) (hn : n = xs.length) (ha : AtI w ao xs) (hb : AtI w bo xs) (hm : n ≤ 4611686018427387904) :
    Calls Try.prog 21 #[.slice ao n c, .slice bo n d] w fun e w' => e = .returned (.bool true) ∧ w.grownBy w' none := by
  have HA := hide (And.intro hn (And.intro ha hb))
  clear hn ha hb
  go_enter Try.func21, Try.ntmps21
  go_wp2
  go_loopg [5] n (fun k i wr => ∃ j : Nat, k + j = n ∧ i = .int .i64 j ∧ w.grownBy wr none)
  case atStart => exact ⟨0, by omega, rfl, grown_refl _ _⟩
  case round =>
    obtain ⟨j, hkj, rfl, hg⟩ := hrel
    by_cases hk : 0 < gk
    · obtain ⟨hn, ha, hb⟩ := HA.out
      have hj : j < xs.length := by omega
      obtain ⟨a, rfl, hca⟩ := ha.take hj
      obtain ⟨b, rfl, hcb⟩ := hb.take hj
      have hca' := hg.cell hca (by simp)
      have hcb' := hg.cell hcb (by simp)
      have h1 : (0 : Int) ≤ (j : Int) := by omega
      have h2 : (j : Int) < (n : Int) := by omega
      generalize ((xs.getD j 0 : Nat) : Int) = x at *
      clear hn ha hb hca hcb hj
      go_wp2
      go_quiet (fail)
      go_wp2
      go_roundg (gk - 1)
      case measure => omega
      case rel => exact ⟨j + 1, by omega, by go_num, grown_trans hg (grown_drewN _ _)⟩
    · have hj : j = n := by omega
      subst hj
      go_wp2
      go_ret
      exact ⟨rfl, hg⟩

def twoL : List Fa := [(4636737291354636288, [0, 4602678819172646912, 4602678819172646912]), (4630826316843712512, [0, 0, 4607182418800017408])]
theorem fares_two (w : World) (a b : List Nat) (p q : Nat) (ha : a.length ≤ 256) (hb : b.length ≤ 256) :
    FasAt (((w.alloc (.cells (fv a).toArray 33)).alloc (.cells (fv b).toArray 33)).alloc (.cells [Value.float .f64 p, Value.slice (some ⟨w.heap.size, 0, none⟩) a.length a.length, Value.float .f64 q, Value.slice (some ⟨w.heap.size + 1, 0, none⟩) b.length b.length].toArray 48)) (some ⟨w.heap.size + 1 + 1, 0, none⟩) [(p, a), (q, b)] ∧
    w.grownBy (((w.alloc (.cells (fv a).toArray 33)).alloc (.cells (fv b).toArray 33)).alloc (.cells [Value.float .f64 p, Value.slice (some ⟨w.heap.size, 0, none⟩) a.length a.length, Value.float .f64 q, Value.slice (some ⟨w.heap.size + 1, 0, none⟩) b.length b.length].toArray 48)) none := by
  generalize hw1 : w.alloc (.cells (fv a).toArray 33) = w1
  have s1 : w1.heap.size = w.heap.size + 1 := by rw [← hw1]; exact Array.size_push ..
  have f1 : Fb w1 w.heap.size a := by rw [← hw1]; exact heap_alloc_new w _
  have g1 : w.grownBy w1 none := by rw [← hw1]; exact grown_alloc w _
  generalize hw2 : w1.alloc (.cells (fv b).toArray 33) = w2
  have s2 : w2.heap.size = w.heap.size + 1 + 1 := by rw [← hw2, ← s1]; exact Array.size_push ..
  have f2 : Fb w2 (w.heap.size + 1) b := by rw [← hw2, ← s1]; exact heap_alloc_new w1 _
  have g2 : w1.grownBy w2 none := by rw [← hw2]; exact grown_alloc w1 _
  generalize hL : [Value.float .f64 p, Value.slice (some ⟨w.heap.size, 0, none⟩) a.length a.length, Value.float .f64 q, Value.slice (some ⟨w.heap.size + 1, 0, none⟩) b.length b.length] = L
  generalize hw3 : w2.alloc (.cells L.toArray 48) = w3
  have f3 : w3.heap[w.heap.size + 1 + 1]? = some (.cells L.toArray 48 (0, 0)) := by rw [← hw3, ← s2]; exact heap_alloc_new w2 _
  have g3 : w2.grownBy w3 none := by rw [← hw3]; exact grown_alloc w2 _
  have k1 := (f1.kept g2 (by simp)).kept g3 (by simp)
  have k2 := f2.kept g3 (by simp)
  refine ⟨?_, grown_trans g1 (grown_trans g2 g3)⟩
  have hB : ∀ {bk : Nat} {xs : List Nat}, Fb w3 bk xs → xs.length ≤ 256 → BIn w3 (some ⟨bk, 0, none⟩) xs.length xs := fun h hl => ⟨h.at_, (fun e => by cases e), by omega, Nat.le_refl _⟩
  intro j c hj
  match j, hj with
  | 0, hj =>
    simp at hj; subst hj
    exact ⟨_, 0, _, _, rfl, ⟨by rw [cell_row f3, ← hL]; rfl, by rw [cell_row f3, ← hL]; rfl, hB k1 ha⟩⟩
  | 1, hj =>
    simp at hj; subst hj
    exact ⟨_, 0, _, _, rfl, ⟨by rw [cell_row f3, ← hL]; rfl, by rw [cell_row f3, ← hL]; rfl, hB k2 hb⟩⟩
  | j + 2, hj => simp at hj
theorem two_any (w : World) : Calls Try.prog 33 #[] w fun e w' => ∃ b, e = .returned (.slice (some ⟨b, 0, none⟩) 2 2) ∧ FasAt w' (some ⟨b, 0, none⟩) twoL ∧ w.grownBy w' none := by
  have H := hide (fares_two w [0, 4602678819172646912, 4602678819172646912] [0, 0, 4607182418800017408] 4636737291354636288 4630826316843712512 (by simp) (by simp))
  go_enter Try.func33, Try.ntmps33
  go_wp2
  go_ret
  exact ⟨_, rfl, H.out.1, H.out.2⟩
theorem wake_two : cE twoL 3 = 0 ∧ vs 3 twoL = [0, 4636737291354636288, 4639481672377565184, 4640889047261118464] ∧ lms 3 twoL 2 = [3, 1] ∧ bE twoL 3 = 4630826316843712512 ∧ uV 4623139235229744497 = 1234 ∧ uE 4623139235229744497 = 0 := by decide +kernel
theorem fresh_at (w : World) (xs : List Nat) : At (w.alloc (.cells (fv xs).toArray 33)) (some ⟨w.heap.size, 0, none⟩) xs := (show Fb (w.alloc (.cells (fv xs).toArray 33)) w.heap.size xs from heap_alloc_new w _).at_
theorem freshI_at (w : World) (xs : List Nat) : AtI (w.alloc (.cells (iv xs).toArray 3)) (some ⟨w.heap.size, 0, none⟩) xs := by
  intro j u hu
  have h : (w.alloc (.cells (iv xs).toArray 3)).heap[w.heap.size]? = some (.cells (iv xs).toArray 3 (0, 0)) := heap_alloc_new w _
  refine ⟨_, rfl, ?_⟩
  rw [Addr.add_lit, Nat.zero_add, cell_row h]
  exact iv_get xs j u hu

set_option maxRecDepth 20000 in
set_option maxHeartbeats 4000000 in
theorem awake_any (w : World) : Calls Try.prog 9 #[] w fun e w' => e = .returned (.bool true) ∧ w.grownBy w' none := by
  obtain ⟨q1, q2, q3, q4, q5, q6⟩ := wake_two
  have HQ := hide (And.intro q1 (And.intro q2 (And.intro q3 (And.intro q4 (And.intro q5 q6)))))
  have HT := hide two_any
  clear q1 q2 q3 q4 q5 q6
  go_enter Try.func9, Try.ntmps9
  go_wp2_with fail
  refine (HT.out w).mono ?_
  rintro e w1 ⟨b1, rfl, hf1, hg1⟩
  have HG1 := hide hg1
  have HV := hide (values_any w1 _ 2 2 twoL 3 w1 rfl hf1 (by omega) (grown_refl _ _))
  clear hf1 hg1
  go_wp2_with fail
  refine HV.out.mono ?_
  rintro e w2 ⟨hv, hg2⟩
  rcases hv with ⟨hne, -⟩ | ⟨-, s, b, hs3, -, rfl, hfb, hlo⟩
  · exact absurd HQ.out.1 hne
  have hs3' : s = 3 := by omega
  subst hs3'
  rw [HQ.out.2.1] at hfb
  have HF := hide hfb
  have HG2 := hide (grown_trans HG1.out hg2)
  clear hs3 hfb hlo hg2 HV HG1
  go_wp2_with fail
  refine (HT.out w2).mono ?_
  rintro e w3 ⟨b3, rfl, hf3, hg3⟩
  have HL := hide (limits_any w3 _ 2 2 twoL 3 w3 rfl hf3 (by omega) (grown_refl _ _))
  have HF3 := hide (HF.out.kept hg3 (by simp))
  have HG3 := hide (grown_trans HG2.out hg3)
  clear hf3 hg3 HF HG2
  go_wp2_with fail
  refine HL.out.mono ?_
  rintro e w4 ⟨hv, hg4⟩
  rcases hv with ⟨hne, -⟩ | ⟨-, s, x, hs3, -, rfl, hown⟩
  · exact absurd HQ.out.1 hne
  have hs3' : s = 3 := by omega
  subst hs3'
  have e2 : (twoL : List Fa).length = 2 := rfl
  rw [e2, HQ.out.2.2.1] at hown
  obtain ⟨ao, cap, rfl, -, -, -, hat, -, -⟩ := ownI_at hown
  have HF4 := hide (And.intro (HF3.out.kept hg4 (by simp)) hat)
  have HG4 := hide (grown_trans HG3.out hg4)
  clear hs3 hown hat hg4 HL HF3 HG3 e2
  go_wp2_with fail
  refine (HT.out w4).mono ?_
  rintro e w5 ⟨b5, rfl, hf5, hg5⟩
  have HB := bid_any w5 _ 2 2 twoL 3 w5 rfl hf5 (by omega) (grown_refl _ _)
  rw [HQ.out.2.2.2.1, HQ.out.1] at HB
  have HB' := hide HB
  have HF5 := hide (And.intro (HF4.out.1.kept hg5 (by simp)) (HF4.out.2.grown hg5))
  have HG5 := hide (grown_trans HG4.out hg5)
  clear hf5 hg5 HF4 HG4 HB
  go_wp2_with fail
  refine HB'.out.mono ?_
  rintro e w6 ⟨rfl, hg6⟩
  have HU := units_any 4623139235229744497 w6
  rw [HQ.out.2.2.2.2.1, HQ.out.2.2.2.2.2] at HU
  have HU' := hide HU
  have HF6 := hide (And.intro (HF5.out.1.kept hg6 (by simp)) (HF5.out.2.grown hg6))
  have HG6 := hide (grown_trans HG5.out hg6)
  clear hg6 HU HF5 HG5 HB'
  go_wp2_with fail
  refine HU'.out.mono ?_
  rintro e w7 ⟨rfl, hg7⟩
  have HF7 := hide (And.intro (HF6.out.1.kept hg7 (by simp)) (HF6.out.2.grown hg7))
  have HG7 := hide (grown_trans HG6.out hg7)
  clear hg7 HU' HF6 HG6 HQ HT
  go_wp2_with fail
  have g8 := grown_alloc w7 (.cells (fv [0, 4636737291354636288, 4639481672377565184, 4640889047261118464]).toArray 33)
  have HI8 := hide (HF7.out.2.grown g8)
  have HG8 := hide (grown_trans HG7.out g8)
  refine (same_eq _ _ 4 4 4 [0, 4636737291354636288, 4639481672377565184, 4640889047261118464] _ rfl (HF7.out.1.kept g8 (by simp)).at_ (fresh_at w7 [0, 4636737291354636288, 4639481672377565184, 4640889047261118464]) (by omega)).mono ?_
  rintro e w9 ⟨rfl, hg9⟩
  have HI9 := hide (HI8.out.grown hg9)
  have HG9 := hide (grown_trans HG8.out hg9)
  clear hg9 HI8 HG8 g8 HF7 HG7
  go_wp2_with fail
  have g10 := grown_alloc w9 (.cells (iv [3, 1]).toArray 3)
  have HG10 := hide (grown_trans HG9.out g10)
  refine (sameI_eq _ _ 2 _ 2 [3, 1] _ rfl (HI9.out.grown g10) (freshI_at w9 [3, 1]) (by omega)).mono ?_
  rintro e w11 ⟨rfl, hg11⟩
  have HG11 := hide (grown_trans HG10.out hg11)
  have hord : FloatKind.f64.format.order 4630826316843712512 4630826316843712512 = some .eq := by decide +kernel
  clear hg11 HG10 g10 HI9 HG9
  go_wp2
  go_ret
  exact ⟨rfl, HG11.out⟩
end Go.Proofs.Ytbebblhnhpdpjaa
