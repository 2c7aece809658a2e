/- The contracts of the statements' own helpers: SameInts, SameBytes; awake. -/
import Derived.Test.YtajdgkbeenalkaaDoorTold
namespace Go.Proofs.YtajdgkbeenalkaaDoor
open Go.RowKit Go.Shelf

/-- The values vs lie where ao leads. -/
def AtV (w : World) (ao : Option Addr) (vs : List Value) : Prop := ∀ j u, vs[j]? = some u → ∃ a, ao = some a ∧ w.cell? (a.add j) = some u
theorem addr_add_block (a : Addr) (j : Nat) : (a.add j).block = a.block := by unfold Addr.add; split <;> rfl
theorem AtV.nil (w : World) (ao : Option Addr) : AtV w ao [] := fun j u h => by simp at h
theorem AtV.kept {w w' : World} {ao : Option Addr} {vs : List Value} {row : Option Nat} (h : AtV w ao vs) (hg : w.grownBy w' row) (hr : ∀ a, ao = some a → some a.block ≠ row) : AtV w' ao vs := by
  intro j u hu
  obtain ⟨a, ha, hcell⟩ := h j u hu
  exact ⟨a, ha, hg.cell hcell (by rw [addr_add_block]; exact hr a ha)⟩
theorem AtV.grown {w w' : World} {ao : Option Addr} {vs : List Value} (h : AtV w ao vs) (hg : w.grownBy w' none) : AtV w' ao vs := h.kept hg (by simp)
theorem atV_row {w : World} {A : Nat} {vs : List Value} {t : TypeId} {fr : Nat × Nat} (h : w.heap[A]? = some (.cells vs.toArray t fr)) : AtV w (some ⟨A, 0, none⟩) vs := by
  intro j u hu
  refine ⟨_, rfl, ?_⟩
  rw [Addr.add_lit, Nat.zero_add, cell_row h]; exact hu
theorem own_at {w : World} {base n : Nat} {e : TypeId} {v : Value} {vs : List Value} (h : w.ownsRow base e 1 v n vs) :
    ∃ ao cap, v = .slice ao n cap ∧ vs.length = n ∧ n ≤ cap ∧ cap ≤ maxLen ∧ AtV w ao vs ∧ (ao = none → n = 0 ∧ cap = 0) ∧ (∀ a, ao = some a → base ≤ a.block ∧ a.block < w.heap.size ∧ ∃ c, w.heap[a.block]? = some (.cells c e (0, 0))) := by
  obtain ⟨hl, h⟩ := h
  simp at hl
  rcases h with ⟨rfl, rfl⟩ | ⟨g, cap, cur, rfl, hb, hg, hn, hm, hs, ht⟩
  · have : vs = [] := List.eq_nil_of_length_eq_zero hl
    subst this
    exact ⟨none, 0, rfl, rfl, Nat.le_refl _, Nat.zero_le _, AtV.nil _ _, fun _ => ⟨rfl, rfl⟩, fun a e => by cases e⟩
  · refine ⟨some ⟨g, 0, none⟩, cap, rfl, hl, hn, hm, ?_, (fun e => by cases e), fun a e => by cases e; exact ⟨hb, row_lt hg, cur, hg⟩⟩
    intro j u hu
    refine ⟨_, rfl, ?_⟩
    rw [Addr.add_lit, Nat.zero_add, cell_of_row w g j cur e (0, 0) hg]
    have h1 : (cur.toList.take (n * 1))[j]? = some u := by rw [ht]; exact hu
    rw [List.getElem?_take] at h1
    split at h1
    · simpa using h1
    · cases h1

attribute [local go_sem ↓] Go.wp_at_zero Go.wp_at_succ
set_option maxHeartbeats 1000000 in
theorem sameInts_eq (ao bo : Option Addr) (n c d : Nat) (xs : List Int) (w : World) (hn : xs.length = n) (ha : AtV w ao (xs.map (Value.int .i64))) (hb : AtV w bo (xs.map (Value.int .i64))) (hm : n ≤ 4611686018427387904) :
    Calls Tryd.prog 35 #[.slice ao n c, .slice bo n d] w fun e w' => e = .returned (.bool true) ∧ w.grownBy w' none := by
  have HA := hide (And.intro hn (And.intro ha hb))
  clear hn ha hb
  go_enter Tryd.func35, Tryd.ntmps35
  go_wp2
  go_loopg [5] n (fun k i wr => ∃ j : Nat, k + j = n ∧ i = .int .i64 j ∧ w.grownBy wr none)
  case atStart => exact ⟨0, by omega, rfl, grown_refl _ _⟩
  case round =>
    obtain ⟨j, hkj, rfl, hg⟩ := hrel
    by_cases hk : 0 < gk
    · obtain ⟨hn, ha, hb⟩ := HA.out
      have hj : j < xs.length := by omega
      obtain ⟨a, rfl, hca⟩ := ha j (.int .i64 xs[j]) (by simp [hj])
      obtain ⟨b, rfl, hcb⟩ := hb j (.int .i64 xs[j]) (by simp [hj])
      have hca' := hg.cell hca (by simp)
      have hcb' := hg.cell hcb (by simp)
      have h1 : (0 : Int) ≤ (j : Int) := by omega
      have h2 : (j : Int) < (n : Int) := by omega
      generalize xs[j] = x at *
      clear hn ha hb hca hcb hj
      go_wp2
      go_region_held3 (fun w' => w'.cell? (a.add j) = some (.int .i64 x) ∧ w'.cell? (b.add j) = some (.int .i64 x)) (go_keep) (fail)
      go_wp2
      go_roundg (gk - 1)
      case measure => omega
      case rel => exact ⟨j + 1, by omega, by go_num, grown_trans hg (grown_drew _ _)⟩
    · have hj : j = n := by omega
      subst hj
      go_wp2
      go_ret
      exact ⟨rfl, hg⟩

set_option maxHeartbeats 1000000 in
theorem sameBytes_eq (ao bo : Option Addr) (n c d : Nat) (xs : List Int) (w : World) (hn : xs.length = n) (ha : AtV w ao (xs.map (Value.int .u8))) (hb : AtV w bo (xs.map (Value.int .u8))) (hm : n ≤ 4611686018427387904) :
    Calls Tryd.prog 36 #[.slice ao n c, .slice bo n d] w fun e w' => e = .returned (.bool true) ∧ w.grownBy w' none := by
  have HA := hide (And.intro hn (And.intro ha hb))
  clear hn ha hb
  go_enter Tryd.func36, Tryd.ntmps36
  go_wp2
  go_loopg [5] n (fun k i wr => ∃ j : Nat, k + j = n ∧ i = .int .i64 j ∧ w.grownBy wr none)
  case atStart => exact ⟨0, by omega, rfl, grown_refl _ _⟩
  case round =>
    obtain ⟨j, hkj, rfl, hg⟩ := hrel
    by_cases hk : 0 < gk
    · obtain ⟨hn, ha, hb⟩ := HA.out
      have hj : j < xs.length := by omega
      obtain ⟨a, rfl, hca⟩ := ha j (.int .u8 xs[j]) (by simp [hj])
      obtain ⟨b, rfl, hcb⟩ := hb j (.int .u8 xs[j]) (by simp [hj])
      have hca' := hg.cell hca (by simp)
      have hcb' := hg.cell hcb (by simp)
      have h1 : (0 : Int) ≤ (j : Int) := by omega
      have h2 : (j : Int) < (n : Int) := by omega
      generalize xs[j] = x at *
      clear hn ha hb hca hcb hj
      go_wp2
      go_region_held3 (fun w' => w'.cell? (a.add j) = some (.int .u8 x) ∧ w'.cell? (b.add j) = some (.int .u8 x)) (go_keep) (fail)
      go_wp2
      go_roundg (gk - 1)
      case measure => omega
      case rel => exact ⟨j + 1, by omega, by go_num, grown_trans hg (grown_drew _ _)⟩
    · have hj : j = n := by omega
      subst hj
      go_wp2
      go_ret
      exact ⟨rfl, hg⟩

theorem Seek.of_dec {L : List Bool} {v : Bool} {i k : Nat} (h : i ≤ k ∧ k < L.length ∧ L.getD k false = v ∧ ∀ j, j < k → i ≤ j → L.getD j false ≠ v) : Seek L v i (k : Int) := Or.inr ⟨k, rfl, h.1, h.2.1, h.2.2.1, fun j h1 h2 => h.2.2.2 j h2 h1⟩
/-- The set that awake makes. -/
def aw : List Bool := [false, false, false, true, false, false, false, false, false, true]
theorem aw_end : Seek aw false 9 (-1) := by
  refine Or.inl ⟨rfl, fun k h1 h2 => ?_⟩
  have h3 : k < 10 := h2
  obtain rfl : k = 9 := by omega
  decide
theorem aw_gaps : gapsL aw = [(0, 3), (4, 5)] := gapsL_eq (.cons (k := 0) (e := 3) (Seek.of_dec (by decide)) (Or.inl (Seek.of_dec (by decide))) (.cons (k := 4) (e := 9) (Seek.of_dec (by decide)) (Or.inl (Seek.of_dec (by decide))) (.nil aw_end)))
theorem aw_bytes : bytesL aw = [8, 2] := by decide
theorem aw_cnt : cntL aw = 2 := by decide
theorem aw_next {r : Int} (h : Seek aw true 4 r) : r = 9 := h.uniq (Seek.of_dec (k := 9) (by decide))
theorem aw_free {r : Int} (h : Seek aw false 3 r) : r = 4 := h.uniq (Seek.of_dec (k := 4) (by decide))

set_option maxRecDepth 100000 in
set_option maxHeartbeats 1000000 in
theorem awake_any (w : World) (hT : Tab w) : Calls Tryd.prog 9 #[] w fun e w' => e = .returned (.bool true) ∧ w.grownBy w' none := by
  have HT := hide hT
  have hw := hT.lt
  clear hT
  go_enter Tryd.func9, Tryd.ntmps9
  go_wp2_with fail
  refine (new_any 10 w (by decide) hw).mono ?_
  rintro e w1 ⟨b, g, rfl, hS, hb, hg, hg1⟩
  have H1 := hide (And.intro hS hg1)
  clear hS hg1
  go_wp2_with fail
  obtain ⟨hS, hg1⟩ := H1.out
  have hT1 := HT.out.kept hg1 (by simp)
  refine (put_any b g _ 3 w1 hS (by simp)).mono ?_
  rintro e w2 ⟨rfl, hS2, hg2⟩
  have G2 : w.grownBy w2 none := grown_then hg1 hg2 (fun k e => by cases e; left; exact hg)
  have H2 := hide (And.intro hS2 G2)
  clear hS2 G2 hg2 hS hg1 H1 hT1
  go_wp2_with fail
  obtain ⟨hS2, hg2⟩ := H2.out
  refine (put_any b g _ 9 w2 hS2 (by simp)).mono ?_
  rintro e w3 ⟨rfl, hS3, hg3⟩
  have G3 : w.grownBy w3 none := grown_then hg2 hg3 (fun k e => by cases e; left; exact hg)
  have H3 := hide (And.intro (show SetAt w3 b g aw from hS3) G3)
  clear hS3 G3 hg3 hS2 hg2 H2
  go_wp2_with fail
  obtain ⟨hS3, hg3⟩ := H3.out
  have hm := may_any b g aw 10 w3 hS3
  rw [show mayF aw.length 10 = 2 by decide] at hm
  refine (put_bad _ 10 2 w3 (by decide) hm).mono ?_
  rintro e w4 ⟨rfl, rfl⟩
  have HT3 := hide (HT.out.kept hg3 (by simp))
  clear hm hS3 hg3
  go_wp2_with fail
  refine (gaps_any _ aw _ (Or.inl ⟨b, g, rfl, H3.out.1⟩) HT3.out (by decide)).mono ?_
  rintro e w5 ⟨v, rfl, hV, hg5⟩
  have hlt := H3.out.1.lt
  have H5 := hide (And.intro hV (And.intro (H3.out.1.kept hg5 (by simp) (by simp)) (And.intro (grown_trans H3.out.2 hg5) (HT3.out.kept hg5 (by simp)))))
  clear hV hg5 hlt
  go_wp2_with fail
  refine (pairs_any v aw w5 H5.out.1).mono ?_
  rintro e w6 ⟨s, rfl, hown, hg6⟩
  rw [aw_gaps] at hown
  obtain ⟨ao, cap, rfl, _, _, _, hat, _, _⟩ := own_at hown
  have H6 := hide (And.intro hat (And.intro (H5.out.2.1.kept hg6 (by simp) (by simp)) (And.intro (grown_trans H5.out.2.2.1 hg6) (H5.out.2.2.2.kept hg6 (by simp)))))
  clear hat hown hg6 H5 H3 HT3
  have hfl : (flat [(0, 3), (4, 5)]).length = 4 := rfl
  rw [hfl]
  clear hfl
  go_wp2_with fail
  have hc := count_any b g aw w6 H6.out.2.1
  rw [aw_cnt] at hc
  refine hc.mono ?_
  clear hc
  rintro e w7 ⟨rfl, rfl⟩
  go_wp2_with fail
  refine (next_any b g aw 4 _ H6.out.2.1 H6.out.2.2.2).mono ?_
  rintro e w7 ⟨r, rfl, hs, rfl⟩
  obtain rfl := aw_next hs
  clear hs
  go_wp2_with fail
  refine (free_any b g aw 3 _ H6.out.2.1 H6.out.2.2.2).mono ?_
  rintro e w7 ⟨r, rfl, hs, rfl⟩
  obtain rfl := aw_free hs
  clear hs
  go_wp2_with fail
  refine (bytes_any b g aw _ H6.out.2.1).mono ?_
  rintro e w8 ⟨rfl, hrow, hg8⟩
  rw [aw_bytes] at hrow
  have H8 := hide (And.intro (atV_row hrow) (And.intro (H6.out.1.grown hg8) (grown_trans H6.out.2.2.1 hg8)))
  clear hrow hg8 H6
  go_wp2_with fail
  have G9 : w8.grownBy (w8.alloc (Obj.cells #[Value.int IntKind.u8 8, Value.int IntKind.u8 2] 5)) none := World.grownBy_alloc w8 _ none
  refine (sameBytes_eq _ _ 2 2 2 [8, 2] _ rfl (H8.out.1.grown G9) (atV_row (vs := [.int .u8 8, .int .u8 2]) (heap_alloc_new w8 _)) (by decide)).mono ?_
  rintro e w9 ⟨rfl, hg9⟩
  have H9 := hide (And.intro ((H8.out.2.1.grown G9).grown hg9) (grown_trans H8.out.2.2 (grown_trans G9 hg9)))
  clear hg9 G9 H8
  go_wp2_with fail
  have G10 : w9.grownBy (w9.alloc (Obj.cells #[Value.int IntKind.i64 0, Value.int IntKind.i64 3, Value.int IntKind.i64 4, Value.int IntKind.i64 5] 3)) none := World.grownBy_alloc w9 _ none
  refine (sameInts_eq ao _ 4 cap 4 [0, 3, 4, 5] _ rfl (H9.out.1.grown G10) (atV_row (vs := [.int .i64 0, .int .i64 3, .int .i64 4, .int .i64 5]) (heap_alloc_new w9 _)) (by decide)).mono ?_
  rintro e w10 ⟨rfl, hg10⟩
  have H10 := hide (grown_trans H9.out.2 (grown_trans G10 hg10))
  clear hg10 G10 H9
  go_wp2
  go_ret
  exact ⟨rfl, H10.out⟩

end Go.Proofs.YtajdgkbeenalkaaDoor
