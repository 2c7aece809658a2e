/- The contracts of a set's iterators: All, Gaps. -/
import Derived.RangeFuncNested
import Derived.RangeFuncBound
import Derived.RangeFuncCalls
import Derived.RangeFuncLeaves
import Derived.RangeFuncBox
import Derived.Shelf.Abstract
import Derived.Shelf.RegionOpen
import Derived.OwnWalkIn
import Derived.TacticsInMore
import Derived.LoopNIn
import Derived.LoopIn
import Derived.Maps.AppendAt
import Derived.Test.YtajdgkbeenalkaaDoorCopy
namespace Go.Proofs.YtajdgkbeenalkaaDoor
open Go.RowKit Go.Shelf
attribute [local go_sem] Oper.semAt_some

/-- The numbers of the set below i, rising. -/
def allTo (L : List Bool) (i : Nat) : List Nat := (List.range i).filter fun k => L.getD k false
/-- Its numbers, rising. -/
def allL (L : List Bool) : List Nat := allTo L L.length
theorem allTo_succ (L : List Bool) (i : Nat) : allTo L (i + 1) = allTo L i ++ (if L.getD i false then [i] else []) := by
  rw [allTo, List.range_succ, List.filter_append]
  rw [List.getD_eq_getElem?_getD]
  cases h : L[i]?.getD false <;> simp [allTo, h]
theorem allTo_skip (L : List Bool) (i k : Nat) (hik : i ≤ k) (h : ∀ j, i ≤ j → j < k → L.getD j false ≠ true) : allTo L k = allTo L i := by
  obtain ⟨d, rfl⟩ := Nat.le.dest hik
  clear hik
  induction d with
  | zero => rfl
  | succ d ih =>
    rw [← Nat.add_assoc, allTo_succ, ih (fun j h1 h2 => h j h1 (by omega))]
    have := h (i + d) (by omega) (by omega)
    simp at this
    simp [List.getD_eq_getElem?_getD, this]
theorem allTo_out (L : List Bool) (i : Nat) (h : L.length ≤ i) : allTo L i = allL L :=
  allTo_skip L L.length i h (fun j h1 _ => by rw [getD_out L j h1]; simp)
theorem allTo_prefix (L : List Bool) (i k : Nat) (h : i ≤ k) : allTo L i <+: allTo L k := by
  obtain ⟨d, rfl⟩ := Nat.le.dest h
  induction d with
  | zero => exact List.prefix_refl _
  | succ d ih =>
    rw [← Nat.add_assoc, allTo_succ]
    exact (ih (by omega)).trans (List.prefix_append _ _)
theorem Seek.none_all {L : List Bool} {i : Nat} (h : Seek L true i (-1)) : allTo L i = allL L := by
  rcases h with ⟨_, h⟩ | ⟨k, hk, _⟩
  · by_cases hi : i ≤ L.length
    · exact (allTo_skip L i L.length hi (fun j h1 h2 => h j h1 h2)).symm
    · exact allTo_out L i (by omega)
  · omega
theorem Seek.some_all {L : List Bool} {i k : Nat} (h : Seek L true i (k : Int)) : allTo L (k + 1) = allTo L i ++ [k] ∧ i ≤ k ∧ k < L.length ∧ (allTo L i).length < (allL L).length := by
  rcases h with ⟨h, _⟩ | ⟨k', hk, h1, h2, h3, h4⟩
  · omega
  · obtain rfl : k = k' := by omega
    have e : allTo L (k + 1) = allTo L i ++ [k] := by
      rw [allTo_succ, allTo_skip L i k h1 h4, h3]; rfl
    refine ⟨e, h1, h2, ?_⟩
    have := (allTo_prefix L (k + 1) L.length (by omega)).length_le
    rw [e] at this
    simp at this
    exact this
theorem Seek.cases {L : List Bool} {v : Bool} {i : Nat} {r : Int} (h : Seek L v i r) : r = -1 ∨ ∃ k : Nat, r = (k : Int) ∧ i ≤ k ∧ k < L.length := by
  rcases h with ⟨h, _⟩ | ⟨k, hk, h1, h2, _⟩
  · exact Or.inl h
  · exact Or.inr ⟨k, hk, h1, h2⟩

/-- What p leads to, below block n: the set L; or no set, and L is empty. -/
def Held (n : Nat) (w : World) (p : Option Addr) (L : List Bool) : Prop := (∃ b g, p = some ⟨b, 0, none⟩ ∧ SetAt w b g L ∧ b < n ∧ g < n) ∨ (p = none ∧ L = [])
/-- An iterator's own variable at block B, and what it leads to. -/
structure It (n : Nat) (w : World) (B : Nat) (p : Option Addr) (L : List Bool) : Prop where
  box : Boxed w B 24 (.pointer p)
  lt : B < n
  held : Held n w p L
  tab : Tab w
  pos : 0 < n

theorem SetAt.below {w w' : World} {b g n : Nat} {L : List Bool} (h : SetAt w b g L) (hB : Below n w w') (hb : b < n) (hg : g < n) : SetAt w' b g L := by
  obtain ⟨W, cap, cur, h1, h2, h3⟩ := h
  exact ⟨W, cap, cur, (hB.block b hb).trans h1, (hB.block g hg).trans h2, h3⟩
theorem Held.below {n : Nat} {w w' : World} {p : Option Addr} {L : List Bool} (h : Held n w p L) (hB : Below n w w') : Held n w' p L := by
  rcases h with ⟨b, g, hp, h1, h2, h3⟩ | h
  · exact Or.inl ⟨b, g, hp, h1.below hB h2 h3, h2, h3⟩
  · exact Or.inr h
theorem It.below {n : Nat} {w w' : World} {B : Nat} {p : Option Addr} {L : List Bool} (h : It n w B p L) (hB : Below n w w') : It n w' B p L :=
  ⟨(hB.block B h.lt).trans h.box, h.lt, h.held.below hB, h.tab.below hB h.pos, h.pos⟩

theorem It.next {n : Nat} {w : World} {B : Nat} {p : Option Addr} {L : List Bool} (h : It n w B p L) (i : Int) : Calls Tryd.prog 32 #[.pointer p, .int .i64 i] w fun e w' => ∃ r, e = .returned (.int .i64 r) ∧ Seek L true i.toNat r ∧ w' = w := by
  rcases h.held with ⟨b, g, rfl, h1, h2, h3⟩ | ⟨rfl, rfl⟩
  · exact next_any b g L i w h1 h.tab
  · exact (next_none none i w (Or.inl rfl)).mono (by rintro e w' ⟨rfl, rfl⟩; exact ⟨_, rfl, Seek.out (Nat.zero_le _), rfl⟩)
theorem It.free {n : Nat} {w : World} {B : Nat} {p : Option Addr} {L : List Bool} (h : It n w B p L) (i : Int) : Calls Tryd.prog 33 #[.pointer p, .int .i64 i] w fun e w' => ∃ r, e = .returned (.int .i64 r) ∧ Seek L false i.toNat r ∧ w' = w := by
  rcases h.held with ⟨b, g, rfl, h1, h2, h3⟩ | ⟨rfl, rfl⟩
  · exact free_any b g L i w h1 h.tab
  · exact (free_none none i w (Or.inl rfl)).mono (by rintro e w' ⟨rfl, rfl⟩; exact ⟨_, rfl, Seek.out (Nat.zero_le _), rfl⟩)

/-- How many rounds are still to come, at most. -/
def leftOf (n : Nat) (v : Value) : Nat := if intOf v < 0 then 0 else n + 1 - (intOf v).toNat

theorem leftOf_nat (n k : Nat) : leftOf n (.int .i64 (k : Int)) = n + 1 - k := by
  have h : ¬ intOf (.int .i64 (k : Int)) < 0 := by show ¬ (k : Int) < 0; omega
  unfold leftOf
  rw [if_neg h]
  rfl
theorem leftOf_neg (n : Nat) : leftOf n (.int .i64 (-1)) = 0 := rfl

theorem wideFn (f : Nat) : Fence.wide.fn f := trivial

set_option maxRecDepth 100000 in
set_option maxHeartbeats 1000000 in
theorem all1_in (n : Nat) (hn : 1 ≤ n) (l B n₀ : Nat) (p : Option Addr) (L : List Bool) (hL : L.length ≤ 65536) (J Jx : List Nat → World → Prop)
    (hY : ∀ pre (x : Nat) W, J pre W → pre.length < (allL L).length → YieldAt Fence.wide (n - 1) Tryd.prog l #[.int .i64 (x : Int)] W fun e W' =>
      (e = .returned (.bool true) ∧ J (pre ++ [x]) W' ∧ Below n₀ W W') ∨ (e = .returned (.bool false) ∧ Jx (pre ++ [x]) W'))
    (W : World) (hI : It n₀ W B p L) (h0 : J [] W) :
    CallsIn Fence.wide n Tryd.prog 55 #[.func (.yield l) #[] #[], .pointer (some ⟨B, 0, none⟩)] W fun e W' => (∃ v, e = .returned v) ∧
      ((∃ ys, ys = allL L ∧ J ys W') ∨ (∃ pre, pre <+: allL L ∧ Jx pre W')) := by
  refine callsIn_of_wp Tryd.func55 rfl trivial ?_ rfl
  simp only [Tryd.ntmps55, List.size_toArray, List.length_cons, List.length_nil, Nat.reduceAdd, Nat.reduceSub, Array.replicate_succ, Array.replicate_zero, List.push_toArray, List.append_toArray, List.nil_append, List.cons_append]
  have hc := hI.box.cell
  have hN := hide (hI.next 0)
  gi_wp2_with fail
  refine ⟨trivial, ?_⟩
  refine (callsIn_wide.2 hN.out).mono ?_
  rintro e w' ⟨r, rfl, hS, rfl⟩
  have HS := hide hS
  clear hN hS hc
  gi_wp2
  gi_loopw [3] (fun q wr => ∃ (i : Nat) (r : Int), q = .int .i64 r ∧ Hid (Seek L true i r) ∧ J (allTo L i) wr ∧ It n₀ wr B p L) (fun q _ => leftOf L.length q)
  case atStart => exact ⟨0, r, rfl, HS, h0, hI⟩
  case round =>
    obtain ⟨i, r, rfl, hS, hJ, hI⟩ := hrel
    rcases hS.out.cases with rfl | ⟨k, rfl, hik, hkL⟩
    · gi_wp2
      go_end0
      exact ⟨⟨_, rfl⟩, .inl ⟨_, rfl, by rw [← hS.out.none_all]; exact hJ⟩⟩
    · obtain ⟨he, _, _, hlt⟩ := hS.out.some_all
      obtain ⟨fn, tmps, assign, body, hy, hR⟩ := hY _ k wr hJ hlt
      have He := hide he
      clear he
      have hk0 : ((k : Int) == -1) = false := by simp
      gi_wp2
      refine hR.mono ?_
      rintro e W3 (⟨rfl, hJ3, hk3⟩ | ⟨rfl, hJx3⟩)
      · have hI3 := hI.below hk3
        have hc3 := hI3.box.cell
        have hN3 := hide (hI3.next ((k : Int) + 1))
        have hkk : (k : Int) ≤ 65536 := by omega
        gi_wp2_with fail
        refine ⟨trivial, ?_⟩
        refine (callsIn_wide.2 hN3.out).mono ?_
        rintro e w4 ⟨r2, rfl, hS2, rfl⟩
        rw [show ((k : Int) + 1).toNat = k + 1 by omega] at hS2
        have HS2 := hide hS2
        clear hS2 hc3 hN3
        gi_wp2
        go_roundw
        case rel => exact ⟨k + 1, r2, rfl, HS2, by rw [He.out]; exact hJ3, hI3⟩
        case measure =>
          rcases HS2.out.cases with rfl | ⟨k2, rfl, h1, h2⟩
          · rw [leftOf_neg, leftOf_nat]; omega
          · rw [leftOf_nat, leftOf_nat]; omega
      · gi_wp2
        refine bodyPost_ret (results_none rfl _ _ _) rfl ?_
        exact ⟨⟨_, rfl⟩, .inr ⟨_, by rw [← He.out]; exact allTo_prefix L (k + 1) L.length (by omega), hJx3⟩⟩

theorem Seek.uniq {L : List Bool} {v : Bool} {i : Nat} {r r' : Int} (h : Seek L v i r) (h' : Seek L v i r') : r = r' := by
  rcases h with ⟨rfl, h⟩ | ⟨k, rfl, h1, h2, h3, h4⟩ <;> rcases h' with ⟨rfl, h'⟩ | ⟨k', rfl, h1', h2', h3', h4'⟩
  · rfl
  · exact absurd h3' (h k' h1' h2')
  · exact absurd h3 (h' k h1 h2)
  · have : k = k' := by
      rcases Nat.lt_trichotomy k k' with hlt | he | hlt
      · exact absurd h3 (h4' k h1 hlt)
      · exact he
      · exact absurd h3' (h4 k' h1' hlt)
    rw [this]
theorem Seek.exists (L : List Bool) (v : Bool) (i : Nat) : ∃ r, Seek L v i r := by
  obtain ⟨d, hd⟩ : ∃ d, L.length - i = d := ⟨_, rfl⟩
  induction d generalizing i with
  | zero => exact ⟨-1, Seek.out (by omega)⟩
  | succ d ih =>
    by_cases h : L.getD i false = v
    · exact ⟨i, Or.inr ⟨i, rfl, Nat.le_refl _, by omega, h, fun j h1 h2 => by omega⟩⟩
    · obtain ⟨r, hr⟩ := ih (i + 1) (by omega)
      refine ⟨r, ?_⟩
      rcases hr with ⟨rfl, hr⟩ | ⟨k, rfl, h1, h2, h3, h4⟩
      · refine Or.inl ⟨rfl, fun j h1 h2 => ?_⟩
        by_cases e : j = i
        · subst e; exact h
        · exact hr j (by omega) h2
      · refine Or.inr ⟨k, rfl, by omega, h2, h3, fun j h5 h6 => ?_⟩
        by_cases e : j = i
        · subst e; exact h
        · exact h4 j (by omega) h6

/-- Where the row of numbers that begins at k, none of them in the set, has its end. -/
def EndOf (L : List Bool) (k e : Nat) : Prop := Seek L true k (e : Int) ∨ (Seek L true k (-1) ∧ e = L.length)
theorem EndOf.uniq {L : List Bool} {k e e' : Nat} (h : EndOf L k e) (h' : EndOf L k e') : e = e' := by
  rcases h with h | ⟨h, rfl⟩ <;> rcases h' with h' | ⟨h', rfl⟩
  · have := h.uniq h'; omega
  · have := h.uniq h'; omega
  · have := h.uniq h'; omega
  · rfl
theorem EndOf.exists (L : List Bool) (k : Nat) : ∃ e, EndOf L k e := by
  obtain ⟨r, hr⟩ := Seek.exists L true k
  rcases hr.cases with rfl | ⟨e, rfl, _⟩
  · exact ⟨_, Or.inr ⟨hr, rfl⟩⟩
  · exact ⟨e, Or.inl hr⟩
theorem EndOf.lt {L : List Bool} {i k e : Nat} (hk : Seek L false i (k : Int)) (h : EndOf L k e) : k < e ∧ e ≤ L.length := by
  rcases hk with ⟨h0, _⟩ | ⟨k', hkk, h1, h2, h3, h4⟩
  · omega
  · obtain rfl : k = k' := by omega
    rcases h with h | ⟨h, rfl⟩
    · rcases h with ⟨h0, _⟩ | ⟨e', he, a1, a2, a3, a4⟩
      · omega
      · obtain rfl : e = e' := by omega
        have : e ≠ k := by rintro rfl; rw [h3] at a3; cases a3
        omega
    · omega

/-- The rows of numbers, none of them in the set, from i on: where each begins, how long it is. -/
inductive GapsR (L : List Bool) : Nat → List (Nat × Nat) → Prop
  | nil {i : Nat} (h : Seek L false i (-1)) : GapsR L i []
  | cons {i k e : Nat} {xs : List (Nat × Nat)} (h : Seek L false i (k : Int)) (he : EndOf L k e) (hx : GapsR L e xs) : GapsR L i ((k, e - k) :: xs)
theorem GapsR.uniq {L : List Bool} {i : Nat} {xs ys : List (Nat × Nat)} (h : GapsR L i xs) (h' : GapsR L i ys) : xs = ys := by
  induction h generalizing ys with
  | nil h =>
    cases h' with
    | nil _ => rfl
    | cons h2 _ _ => have := h.uniq h2; omega
  | cons h he hx ih =>
    cases h' with
    | nil h2 => have := h.uniq h2; omega
    | cons h2 he2 hx2 =>
      have e1 := h.uniq h2
      have e1' := Int.ofNat.inj e1
      subst e1'
      have e2 := he.uniq he2
      subst e2
      rw [ih hx2]
theorem GapsR.exists (L : List Bool) (i : Nat) : ∃ xs, GapsR L i xs := by
  obtain ⟨d, hd⟩ : ∃ d, L.length - i = d := ⟨_, rfl⟩
  induction d using Nat.strongRecOn generalizing i with
  | _ d ih =>
    obtain ⟨r, hr⟩ := Seek.exists L false i
    rcases hr.cases with rfl | ⟨k, rfl, h1, h2⟩
    · exact ⟨[], .nil hr⟩
    · obtain ⟨e, he⟩ := EndOf.exists L k
      have hl := he.lt hr
      obtain ⟨xs, hx⟩ := ih (L.length - e) (by omega) e rfl
      exact ⟨_, .cons hr he hx⟩
noncomputable def gapsL (L : List Bool) : List (Nat × Nat) := Classical.choose (GapsR.exists L 0)
theorem gapsL_is (L : List Bool) : GapsR L 0 (gapsL L) := Classical.choose_spec (GapsR.exists L 0)
theorem gapsL_eq {L : List Bool} {xs : List (Nat × Nat)} (h : GapsR L 0 xs) : gapsL L = xs := (gapsL_is L).uniq h
theorem GapsR.length {L : List Bool} {i : Nat} {xs : List (Nat × Nat)} (h : GapsR L i xs) : xs.length ≤ L.length - i := by
  induction h with
  | nil _ => simp
  | cons h he hx ih =>
    have := he.lt h
    rcases h.cases with h0 | ⟨k, hk, h1, h2⟩
    · omega
    · simp; omega
theorem gapsL_length (L : List Bool) : (gapsL L).length ≤ L.length := by have := (gapsL_is L).length; omega

def encP (x : Nat × Nat) : Array Value := #[.int .i64 (x.1 : Int), .int .i64 (x.2 : Int)]

set_option maxRecDepth 100000 in
set_option maxHeartbeats 1000000 in
theorem gaps1_in (n : Nat) (hn : 1 ≤ n) (l B n₀ : Nat) (p : Option Addr) (L : List Bool) (hL : L.length ≤ 65536) (J Jx : List (Nat × Nat) → World → Prop)
    (hY : ∀ pre (x : Nat × Nat) W, J pre W → pre.length < (gapsL L).length → YieldAt Fence.wide (n - 1) Tryd.prog l (encP x) W fun e W' =>
      (e = .returned (.bool true) ∧ J (pre ++ [x]) W' ∧ Below n₀ W W') ∨ (e = .returned (.bool false) ∧ Jx (pre ++ [x]) W'))
    (W : World) (hI : It n₀ W B p L) (h0 : J [] W) :
    CallsIn Fence.wide n Tryd.prog 57 #[.func (.yield l) #[] #[], .pointer (some ⟨B, 0, none⟩)] W fun e W' => (∃ v, e = .returned v) ∧
      ((∃ ys, ys = gapsL L ∧ J ys W') ∨ (∃ pre, pre <+: gapsL L ∧ Jx pre W')) := by
  refine callsIn_of_wp Tryd.func57 rfl trivial ?_ rfl
  simp only [Tryd.ntmps57, List.size_toArray, List.length_cons, List.length_nil, Nat.reduceAdd, Nat.reduceSub, Array.replicate_succ, Array.replicate_zero, List.push_toArray, List.append_toArray, List.nil_append, List.cons_append]
  have hc := hI.box.cell
  have hN := hide (hI.free 0)
  have hG := gapsL_is L
  gi_wp2_with fail
  refine ⟨trivial, ?_⟩
  refine (callsIn_wide.2 hN.out).mono ?_
  rintro e w' ⟨r, rfl, hS, rfl⟩
  have HS := hide hS
  clear hN hS hc
  gi_wp2
  gi_loopw [3] (fun q wr => ∃ (i : Nat) (r : Int) (pre rest : List (Nat × Nat)), q = .int .i64 r ∧ Hid (Seek L false i r) ∧ Hid (gapsL L = pre ++ rest) ∧ GapsR L i rest ∧ J pre wr ∧ It n₀ wr B p L) (fun q _ => leftOf L.length q)
  case atStart => exact ⟨0, r, [], gapsL L, rfl, HS, hide rfl, hG, h0, hI⟩
  case round =>
    obtain ⟨i, r, pre, rest, rfl, hS, hpr, hR, hJ, hI⟩ := hrel
    rcases hS.out.cases with rfl | ⟨k, rfl, hik, hkL⟩
    · have he : rest = [] := hR.uniq (.nil hS.out)
      subst he
      clear hR
      gi_wp2
      go_end0
      exact ⟨⟨_, rfl⟩, .inl ⟨_, rfl, by rw [hpr.out, List.append_nil]; exact hJ⟩⟩
    · cases hR with
      | nil h2 => have := hS.out.uniq h2; omega
      | cons h2 he hx =>
        rename_i k' e rest'
        have e1 := Int.ofNat.inj (hS.out.uniq h2)
        subst e1
        have hl := he.lt h2
        obtain ⟨fn, tmps, assign, body, hy, hR⟩ := hY _ (k, e - k) wr hJ (by rw [hpr.out]; simp)
        have hk0 : ((k : Int) == -1) = false := by simp
        have hc := hI.box.cell
        have hN := hide (hI.next (k : Int))
        have HE := hide he
        simp only [encP] at hy
        have hsub : (e : Int) - (k : Int) = ((e - k : Nat) : Int) := by omega
        clear he h2
        gi_wp2_with fail
        refine ⟨trivial, ?_⟩
        refine (callsIn_wide.2 hN.out).mono ?_
        rintro e1 w4 ⟨r2, rfl, hS2, rfl⟩
        rw [Int.toNat_natCast] at hS2
        have HS2 := hide hS2
        clear hS2 hN
        rcases HS2.out.cases with rfl | ⟨k2, rfl, h1, h2⟩
        · obtain rfl : e = L.length := by
            rcases HE.out with h | ⟨_, h⟩
            · have := h.uniq HS2.out; omega
            · exact h
          obtain ⟨b, g, rfl, hset, _⟩ : ∃ b g, p = some ⟨b, 0, none⟩ ∧ SetAt w4 b g L ∧ True := by
            rcases hI.held with ⟨b, g, hp, h1, _⟩ | ⟨_, h⟩
            · exact ⟨b, g, hp, h1, trivial⟩
            · rw [h] at hkL; simp at hkL
          have hbd := hset.bound
          clear hset
          gi_wp2
          refine hR.mono ?_
          rintro e1 W3 (⟨rfl, hJ3, hk3⟩ | ⟨rfl, hJx3⟩)
          · have hI3 := hI.below hk3
            have hc3 := hI3.box.cell
            have hN3 := hide (hI3.free (L.length : Int))
            gi_wp2_with fail
            refine ⟨trivial, ?_⟩
            refine (callsIn_wide.2 hN3.out).mono ?_
            rintro e1 w4 ⟨r2, rfl, hS3, rfl⟩
            rw [Int.toNat_natCast] at hS3
            have HS3 := hide hS3
            clear hS3 hc3 hN3
            gi_wp2
            go_roundw
            case rel => exact ⟨L.length, r2, pre ++ [(k, L.length - k)], rest', rfl, HS3, hide (by rw [hpr.out, List.append_assoc]; rfl), hx, hJ3, hI3⟩
            case measure =>
              rcases HS3.out.cases with rfl | ⟨k2, rfl, h1, h2⟩
              · rw [leftOf_neg, leftOf_nat]; omega
              · rw [leftOf_nat, leftOf_nat]; omega
          · gi_wp2
            refine bodyPost_ret (results_none rfl _ _ _) rfl ?_
            exact ⟨⟨_, rfl⟩, .inr ⟨_, by rw [hpr.out]; exact ⟨rest', by simp⟩, hJx3⟩⟩
        · obtain rfl : k2 = e := by
            rcases HE.out with h | ⟨h, _⟩
            · exact Int.ofNat.inj (HS2.out.uniq h)
            · have := h.uniq HS2.out; omega
          have hk20 : ((k2 : Int) == -1) = false := by simp
          gi_wp2
          refine hR.mono ?_
          rintro e1 W3 (⟨rfl, hJ3, hk3⟩ | ⟨rfl, hJx3⟩)
          · have hI3 := hI.below hk3
            have hc3 := hI3.box.cell
            have hN3 := hide (hI3.free (k2 : Int))
            gi_wp2_with fail
            refine ⟨trivial, ?_⟩
            refine (callsIn_wide.2 hN3.out).mono ?_
            rintro e1 w4 ⟨r2, rfl, hS3, rfl⟩
            rw [Int.toNat_natCast] at hS3
            have HS3 := hide hS3
            clear hS3 hc3 hN3
            gi_wp2
            go_roundw
            case rel => exact ⟨k2, r2, pre ++ [(k, k2 - k)], rest', rfl, HS3, hide (by rw [hpr.out, List.append_assoc]; rfl), hx, hJ3, hI3⟩
            case measure =>
              rcases HS3.out.cases with rfl | ⟨k2, rfl, h1, h2⟩
              · rw [leftOf_neg, leftOf_nat]; omega
              · rw [leftOf_nat, leftOf_nat]; omega
          · gi_wp2
            refine bodyPost_ret (results_none rfl _ _ _) rfl ?_
            exact ⟨⟨_, rfl⟩, .inr ⟨_, by rw [hpr.out]; exact ⟨rest', by simp⟩, hJx3⟩⟩

end Go.Proofs.YtajdgkbeenalkaaDoor
