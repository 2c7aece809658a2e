/- Texts joined: Pg, Ph, Pi, La, Qa, Qb. -/
import Derived.Test.YtnnmaknjhfjojaaGreatDoorJrAe
import Derived.OwnWalk
import Derived.Test.YtnnmaknjhfjojaaGreatDoorCards
import Derived.Test.YtnnmaknjhfjojaaGreatDoorTie
import Derived.ProofKit
import Derived.OpenShut
import Derived.Deep.DeepHandedRow
import Derived.Lib.LaidTab
import Derived.ChangeOld
import Derived.SizedLaws
/- The document's cabins that may be. -/
namespace Go.Proofs.YtnnmaknjhfjojaaGreatDoor
open Go.RowKit Cx Pn
attribute [local go_sem ↓] Go.wp_at_zero Go.wp_at_succ

set_option maxHeartbeats 1000000 in
theorem right_no (R W : Int) (v : Value) (h : R < 1 ∨ 64 < R ∨ W < 1 ∨ 16 < W) (w : World) :
    Calls Tryz.prog 28 #[cbV R W v] w fun e w' => e = .returned (.bool false) ∧ w.grownBy w' none := by
  have hG : ∀ o, w.grownBy (w.alloc o) none := fun o => grown_alloc w o
  unfold cbV
  by_cases h1 : R < 1
  · go_enter Tryz.func28, Tryz.ntmps28
    go_wp2
    go_ret
    exact ⟨rfl, hG _⟩
  · by_cases h2 : 64 < R
    · go_enter Tryz.func28, Tryz.ntmps28
      go_wp2
      go_ret
      exact ⟨rfl, hG _⟩
    · by_cases h3 : W < 1
      · go_enter Tryz.func28, Tryz.ntmps28
        go_wp2
        go_ret
        exact ⟨rfl, hG _⟩
      · have h4 : 16 < W := by omega
        go_enter Tryz.func28, Tryz.ntmps28
        go_wp2
        go_ret
        exact ⟨rfl, hG _⟩
theorem last_take {L : List Int} {j : Nat} (h : j ≤ L.length) (h0 : 0 < j) : (L.take j).getLastD 0 = L.getD (j - 1) 0 := by
  rw [List.getLastD_eq_getLast?, List.getLast?_eq_getElem?, List.length_take, List.getElem?_take, List.getD_eq_getElem?_getD, Nat.min_eq_left h, if_pos (by omega)]
set_option maxHeartbeats 2000000 in
theorem right_any (R W : Int) (ao : Option Addr) (n cap : Nat) (L : List Int) (w : World) (hc : CbIn w ao n cap L) :
    Calls Tryz.prog 28 #[cbV R W (.slice ao n cap)] w fun e w' => e = .returned (.bool (decide (Ok R W L))) ∧ w.grownBy w' none := by
  by_cases hb : 1 ≤ R ∧ R ≤ 64 ∧ 1 ≤ W ∧ W ≤ 16
  · obtain ⟨h1, h2, h3, h4⟩ := hb
    have hlen := hc.len
    have hsm := hc.sm
    obtain ⟨z, hz⟩ : ∃ z, z = decide (Ok R W L) := ⟨_, rfl⟩
    rw [← hz]
    have HC := hide (And.intro hc hz)
    clear hc hz
    have HL := hide hlen
    clear hlen
    unfold cbV
    have hG : w.grownBy (w.alloc (.cells #[.int .i64 R, .int .i64 W, .slice ao n cap] 24)) none := grown_alloc w _
    have HG := hide (And.intro hG (heap_alloc_new w (.cells #[.int .i64 R, .int .i64 W, .slice ao n cap] 24)))
    clear hG
    go_enter Tryz.func28, Tryz.ntmps28
    go_wp2
    go_loopg [3] n (fun k i wr => ∃ j : Nat, k + j = n ∧ i = .int .i64 j ∧ rise W 0 (L.take j) ∧ wr.heap[w.heap.size]? = some (.cells #[.int .i64 R, .int .i64 W, .slice ao n cap] 24) ∧ w.grownBy wr none)
    case atStart => exact ⟨0, by omega, rfl, by simp [rise], HG.out.2, HG.out.1⟩
    case round =>
      obtain ⟨j, hkj, rfl, hr, hbx, hg⟩ := hrel
      obtain ⟨c0, c1, c2⟩ := box3 hbx
      have HB := hide (And.intro hbx hg)
      by_cases hk : 0 < gk
      · have hj : j < L.length := by rw [HL.out]; omega
        obtain ⟨a, rfl, hcell⟩ := (HC.out.1.grown hg).cell hj
        have hs := rise_snoc W (L.take j) L[j] 0
        have htk : L.take j ++ [L[j]] = L.take (j + 1) := by rw [List.take_add_one, List.getElem?_eq_getElem hj]; rfl
        rw [htk] at hs
        have HS := hide (And.intro hs hr)
        have hout : ¬ (L.take j).getLastD 0 < L[j] ∨ ¬ L[j] < W → z = false := by
          intro h
          rw [HC.out.2]
          refine decide_eq_false fun ho => ?_
          have := (hs.1 (rise_take ho.2.2.2.2 _)).2
          omega
        have hlow : 0 ≤ (L.take j).getLastD 0 := by
          rcases Nat.eq_zero_or_pos j with e | e
          · subst e; simp
          · rw [last_take (by omega) e]
            have h9 : L.getD (j - 1) 0 ∈ L.take j := by
              rw [List.getD_eq_getElem?_getD, List.getElem?_eq_getElem (by omega)]
              exact List.mem_iff_getElem.2 ⟨j - 1, by simp; omega, by simp⟩
            exact Int.le_of_lt (rise_mem hr _ h9).1
        have HO := hide hout
        clear hs htk hout
        have h5 : (0 : Int) ≤ (j : Int) := by omega
        have h6 : (j : Int) < (n : Int) := by omega
        rcases Nat.eq_zero_or_pos j with e | e
        · have hy : (L.take j).getLastD 0 = 0 := by rw [e]; rfl
          clear hr hbx hg
          rw [hy] at HO HS
          generalize hx : L[j] = x at *
          have HX := hide (And.intro hx e)
          have d0 : decide (0 < j) = false := by simp; omega
          clear hx hy e
          by_cases h7 : x < 1
          · have d1 : decide (x < 1) = true := by simp; omega
            have hz2 := HO.out (Or.inl (by omega))
            subst hz2
            go_wp2
            go_quiet (fail)
            go_wp2
            go_ret
            exact ⟨rfl, grown_trans HB.out.2 (grown_drewN _ _ _)⟩
          · have d1 : decide (x < 1) = false := by simp; omega
            by_cases h8 : x < W
            · have d2 : decide (W ≤ x) = false := by simp; omega
              go_wp2
              go_quiet (fail)
              go_wp2
              go_roundg (gk - 1)
              case measure => omega
              case rel =>
                obtain ⟨hs, hr⟩ := HS.out
                exact ⟨j + 1, by omega, by go_num, hs.2 ⟨hr, by omega, h8⟩, HB.out.1, grown_trans HB.out.2 (grown_drewN _ _ _)⟩
            · have d2 : decide (W ≤ x) = true := by simp; omega
              have hz2 := HO.out (Or.inr h8)
              subst hz2
              go_wp2
              go_quiet (fail)
              go_wp2
              go_ret
              exact ⟨rfl, grown_trans HB.out.2 (grown_drewN _ _ _)⟩
        · have hj1 : j - 1 < L.length := by omega
          obtain ⟨a', ea, hcell'⟩ := (HC.out.1.grown hg).cell hj1
          cases ea
          have hyy : L[j - 1] = (L.take j).getLastD 0 := by
            rw [last_take (by omega) e, List.getD_eq_getElem?_getD, List.getElem?_eq_getElem hj1]; rfl
          rw [hyy] at hcell'
          clear hr hbx hg hyy
          obtain ⟨t, ht⟩ : ∃ t, t = j - 1 := ⟨_, rfl⟩
          rw [← ht] at hcell'
          have hw : IntKind.i64.wrap ((j : Int) - 1) = (t : Int) := by rw [IntKind.wrap_i64]; omega
          have ht0 : (0 : Int) ≤ (t : Int) := by omega
          have ht1 : (t : Int) < (n : Int) := by omega
          have d0 : decide (0 < j) = true := by simp; omega
          generalize hx : L[j] = x at *
          generalize hy : (L.take j).getLastD 0 = y at *
          have HX := hide (And.intro hx (And.intro hy (And.intro ht e)))
          clear hx hy ht e
          by_cases h7 : x < 1
          · have d1 : decide (x < 1) = true := by simp; omega
            have hz2 := HO.out (Or.inl (by omega))
            subst hz2
            go_wp2
            go_quiet (fail)
            go_wp2
            go_ret
            exact ⟨rfl, grown_trans HB.out.2 (grown_drewN _ _ _)⟩
          · have d1 : decide (x < 1) = false := by simp; omega
            by_cases h8 : x < W
            · have d2 : decide (W ≤ x) = false := by simp; omega
              by_cases h9 : y < x
              · have d3 : decide (x ≤ y) = false := by simp; omega
                go_wp2
                go_quiet (fail)
                go_wp2
                go_roundg (gk - 1)
                case measure => omega
                case rel =>
                  obtain ⟨hs, hr⟩ := HS.out
                  exact ⟨j + 1, by omega, by go_num, hs.2 ⟨hr, h9, h8⟩, HB.out.1, grown_trans HB.out.2 (grown_drewN _ _ _)⟩
              · have d3 : decide (x ≤ y) = true := by simp; omega
                have hz2 := HO.out (Or.inl h9)
                subst hz2
                go_wp2
                go_quiet (fail)
                go_wp2
                go_ret
                exact ⟨rfl, grown_trans HB.out.2 (grown_drewN _ _ _)⟩
            · have d2 : decide (W ≤ x) = true := by simp; omega
              have hz2 := HO.out (Or.inr h8)
              subst hz2
              go_wp2
              go_quiet (fail)
              go_wp2
              go_ret
              exact ⟨rfl, grown_trans HB.out.2 (grown_drewN _ _ _)⟩
      · have hj : j = n := by omega
        subst hj
        have h5 := HC.out.2
        rw [decide_eq_true (show Ok R W L from ⟨h1, h2, h3, h4, by rw [← HL.out, List.take_length] at hr; exact hr⟩)] at h5
        subst h5
        clear hr hbx hg
        go_wp2
        go_ret
        exact ⟨rfl, HB.out.2⟩
  · rw [decide_eq_false (fun (h : Ok R W L) => hb ⟨h.1, h.2.1, h.2.2.1, h.2.2.2.1⟩)]
    exact right_no R W _ (by omega) w

/-- How many seats a cabin has. -/
def stN (R W : Int) (L : List Int) : Int := if Ok R W L then R * W else 0
set_option maxHeartbeats 1000000 in
theorem nseats_any (R W : Int) (ao : Option Addr) (n cap : Nat) (L : List Int) (w : World) (hc : CbIn w ao n cap L) :
    Calls Tryz.prog 20 #[cbV R W (.slice ao n cap)] w fun e w' => e = .returned (.int .i64 (stN R W L)) ∧ w.grownBy w' none := by
  have hG := grown_alloc w (.cells #[.int .i64 R, .int .i64 W, .slice ao n cap] 24)
  have H := hide (right_any R W ao n cap L _ (hc.grown hG))
  unfold stN
  by_cases ho : Ok R W L
  · rw [if_pos ho]
    rw [decide_eq_true ho] at H
    obtain ⟨o1, o2, o3, o4, -⟩ := ho
    have hrw : R * W ≤ 64 * 16 := Int.mul_le_mul o2 o4 (by omega) (by omega)
    have hrw0 : 0 ≤ R * W := Int.mul_nonneg (by omega) (by omega)
    unfold cbV at *
    have HG := hide hG
    clear hG hc
    go_enter Tryz.func20, Tryz.ntmps20
    go_wp2_with fail
    refine H.out.mono ?_
    rintro e w1 ⟨rfl, hg1⟩
    obtain ⟨b0, b1, b2⟩ := box3 (heap_kept (heap_alloc_new w (.cells #[.int .i64 R, .int .i64 W, .slice ao n cap] 24)) hg1 (by simp))
    have H1 := hide (grown_trans HG.out hg1)
    clear hg1
    go_wp2
    go_ret
    exact ⟨by go_num, H1.out⟩
  · rw [if_neg ho]
    rw [decide_eq_false ho] at H
    unfold cbV at *
    have HG := hide hG
    clear hG hc ho
    go_enter Tryz.func20, Tryz.ntmps20
    go_wp2_with fail
    refine H.out.mono ?_
    rintro e w1 ⟨rfl, hg1⟩
    have H1 := hide (grown_trans HG.out hg1)
    clear hg1
    go_wp2
    go_ret
    exact ⟨rfl, H1.out⟩
end Go.Proofs.YtnnmaknjhfjojaaGreatDoor
/- The laws' set of what is taken. -/
namespace Go.Proofs.YtnnmaknjhfjojaaGreatDoor
open Go.RowKit Cx Pn
attribute [local go_sem ↓] Go.wp_at_zero Go.wp_at_succ

/-- What is asked, as a value. -/
def askV (R W : Int) (v t : Value) (o : Int) : Value := .agg #[.int .i64 R, .int .i64 W, v, t, .int .i64 o]
/-- The set's bound. -/
def bdN (R W : Int) (L : List Int) (o : Int) : Nat := (max 0 (min (IntKind.i64.wrap (stN R W L + o)) 2000)).toNat
theorem bdN_int (R W : Int) (L : List Int) (o : Int) : ((bdN R W L o : Nat) : Int) = max 0 (min (IntKind.i64.wrap (stN R W L + o)) 2000) := by
  unfold bdN; omega
theorem bdN_le (R W : Int) (L : List Int) (o : Int) : bdN R W L o ≤ 2000 := by
  unfold bdN; omega
/-- One more that is taken; all of them. -/
def tk1 (n : Nat) (S : List Bool) (t : Int) : List Bool := if 0 ≤ t ∧ t < (n : Int) then S.set t.toNat true else S
def tkL (n : Nat) (T : List Int) : List Bool := T.foldl (tk1 n) (List.replicate n false)
theorem tk1_len (n : Nat) (S : List Bool) (t : Int) : (tk1 n S t).length = S.length := by
  unfold tk1; split <;> simp
theorem tkF_len (n : Nat) : ∀ (T : List Int) (S : List Bool), (T.foldl (tk1 n) S).length = S.length
  | [], S => rfl
  | t :: T, S => by rw [List.foldl_cons, tkF_len n T, tk1_len]
theorem tkL_len (n : Nat) (T : List Int) : (tkL n T).length = n := by
  unfold tkL; rw [tkF_len]; simp
theorem tkL_snoc (n : Nat) (T : List Int) (t : Int) : tkL n (T ++ [t]) = tk1 n (tkL n T) t := by
  unfold tkL; rw [List.foldl_append]; rfl
theorem tkL_get (n : Nat) (T : List Int) (i : Nat) (hi : i < n) : (tkL n T).getD i true = decide ((i : Int) ∈ T) := by
  suffices h : ∀ k, k ≤ T.length → (tkL n (T.take k)).getD i true = decide ((i : Int) ∈ T.take k) by
    have := h T.length (Nat.le_refl _)
    rwa [List.take_length] at this
  intro k
  induction k with
  | zero => intro _; unfold tkL; simp [hi]
  | succ k ih0 =>
    intro hk
    have ih := ih0 (by omega)
    have e0 : T.take (k + 1) = T.take k ++ [T[k]] := by rw [List.take_add_one, List.getElem?_eq_getElem (by omega)]; rfl
    rw [e0]
    clear ih0 e0
    generalize T[k] = t at *
    generalize T.take k = T at *
    rw [tkL_snoc]
    unfold tk1
    have hl := tkL_len n T
    by_cases h : 0 ≤ t ∧ t < (n : Int)
    · rw [if_pos h]
      rw [List.getD_eq_getElem?_getD] at ih ⊢
      by_cases e : t.toNat = i
      · rw [e, List.getElem?_set_self (by omega)]
        have : (i : Int) = t := by omega
        simp [this]
      · rw [List.getElem?_set_ne e, ih]
        have : ¬ (i : Int) = t := by omega
        simp [this]
    · rw [if_neg h, ih]
      have : ¬ (i : Int) = t := by omega
      simp [this]
theorem box5 {w : World} {g : Nat} {a b c d e : Value} {t : TypeId} (h : w.heap[g]? = some (.cells #[a, b, c, d, e] t)) : w.cell? ⟨g, 0, none⟩ = some a ∧ w.cell? ⟨g, 1, none⟩ = some b ∧ w.cell? ⟨g, 2, none⟩ = some c ∧ w.cell? ⟨g, 3, none⟩ = some d ∧ w.cell? ⟨g, 4, none⟩ = some e :=
  ⟨cell_row (l := [a, b, c, d, e]) h 0, cell_row (l := [a, b, c, d, e]) h 1, cell_row (l := [a, b, c, d, e]) h 2, cell_row (l := [a, b, c, d, e]) h 3, cell_row (l := [a, b, c, d, e]) h 4⟩

set_option maxHeartbeats 2000000 in
theorem set_any (R W o : Int) (ao : Option Addr) (n cap : Nat) (L : List Int) (to : Option Addr) (m tc : Nat) (T : List Int) (w : World) (hc : CbIn w ao n cap L) (ht : CbIn w to m tc T) (hw : 0 < w.heap.size) :
    Calls Tryz.prog 5 #[askV R W (.slice ao n cap) (.slice to m tc) o] w fun e w' => ∃ b g, e = .returned (.tuple #[.pointer (some ⟨b, 0, none⟩), .int .i64 (bdN R W L o : Int), .bool true]) ∧ Bt.SetAt w' b g (tkL (bdN R W L o) T) ∧ w.heap.size ≤ b ∧ w.heap.size ≤ g ∧ w.grownBy w' none := by
  have hG := grown_alloc w (.cells #[.int .i64 R, .int .i64 W, .slice ao n cap, .slice to m tc, .int .i64 o] 26)
  have H := hide (fun w' (hg : w.grownBy w' none) => nseats_any R W ao n cap L w' (hc.grown hg))
  have hbi := bdN_int R W L o
  have hbl := bdN_le R W L o
  generalize bdN R W L o = B at *
  generalize stN R W L = Z at *
  have hlen := ht.len
  have hsm := ht.sm
  have HL := hide hlen
  have HT := hide ht
  have HB := hide hbi
  have Hw := hide hw
  have N := hide (fun w' (hg : w.grownBy w' none) => Bt.new_any B w' (by omega) (by have := hg.size; omega))
  clear hc ht hlen hbi hw
  unfold askV
  unfold cbV at H
  have HG := hide hG
  clear hG
  go_enter Tryz.func5, Tryz.ntmps5
  go_wp2
  obtain ⟨b0, b1, b2, b3, b4⟩ := box5 (heap_alloc_new w (.cells #[.int .i64 R, .int .i64 W, .slice ao n cap, .slice to m tc, .int .i64 o] 26))
  go_region_held3 (fun w' => w'.cell? ⟨w.heap.size, 0, none⟩ = some (.int .i64 R) ∧ w'.cell? ⟨w.heap.size, 1, none⟩ = some (.int .i64 W) ∧ w'.cell? ⟨w.heap.size, 2, none⟩ = some (.slice ao n cap) ∧ w'.cell? ⟨w.heap.size, 4, none⟩ = some (.int .i64 o)) (first | (exact ⟨b0, b1, b2, b4⟩) | assumption | go_keep) ((go_at_call 20; refine (H.out _ ?_).mono ?_; exact (grown_trans HG.out (grown_drew _ _)); rintro e w1 ⟨rfl, hg1⟩; have hk1 : w1.cell? ⟨w.heap.size, 0, none⟩ = some (.int .i64 R) ∧ w1.cell? ⟨w.heap.size, 1, none⟩ = some (.int .i64 W) ∧ w1.cell? ⟨w.heap.size, 2, none⟩ = some (.slice ao n cap) ∧ w1.cell? ⟨w.heap.size, 4, none⟩ = some (.int .i64 o) := ⟨hg1.cell b0 (by simp), hg1.cell b1 (by simp), hg1.cell b2 (by simp), hg1.cell b4 (by simp)⟩))
  have hg1' := grown_trans (grown_trans HG.out (grown_drew _ _)) hg1
  have hbx := heap_kept (heap_kept (heap_alloc_new w (.cells #[.int .i64 R, .int .i64 W, .slice ao n cap, .slice to m tc, .int .i64 o] 26)) (grown_drew _ none) (by simp)) hg1 (by simp)
  rw [← HB.out]
  have H1 := hide (And.intro hg1' hbx)
  have hsz1 := row_lt hbx
  clear hg1 hg1' hbx hk1 b0 b1 b2 b3 b4 HG
  go_wp2_with fail
  refine (N.out _ H1.out.1).mono ?_
  rintro e w2 ⟨b, g, rfl, hset, hb, hg, hgw⟩
  have H2 := hide (And.intro hset (And.intro (heap_kept H1.out.2 hgw (by simp)) (grown_trans H1.out.1 hgw)))
  have hbs : w.heap.size < b := by omega
  have hgs : w.heap.size < g := by omega
  clear hset hb hg hgw
  go_wp2
  go_loopg [8] m (fun k i wr => ∃ j : Nat, k + j = m ∧ i = .int .i64 (j : Int) ∧ Bt.SetAt wr b g (tkL B (T.take j)) ∧ wr.heap[w.heap.size]? = some (.cells #[.int .i64 R, .int .i64 W, .slice ao n cap, .slice to m tc, .int .i64 o] 26) ∧ w.grownBy wr none)
  case atStart => exact ⟨0, by omega, rfl, H2.out.1, H2.out.2.1, H2.out.2.2⟩
  case round =>
    obtain ⟨j, hkj, rfl, hset, hbx, hgw⟩ := hrel
    obtain ⟨b0, b1, b2, b3, b4⟩ := box5 hbx
    have HV := hide (And.intro hset (And.intro hbx hgw))
    by_cases hk : 0 < gk
    · have hj : j < T.length := by rw [HL.out]; omega
      obtain ⟨a, rfl, hcell⟩ := (HT.out.grown hgw).cell hj
      have htk : T.take (j + 1) = T.take j ++ [T[j]] := by rw [List.take_add_one, List.getElem?_eq_getElem hj]; rfl
      have hnx : tkL B (T.take (j + 1)) = tk1 B (tkL B (T.take j)) T[j] := by rw [htk, tkL_snoc]
      have hln := tkL_len B (T.take j)
      have HX := hide (And.intro hnx hln)
      have h5 : (0 : Int) ≤ (j : Int) := by omega
      have h6 : (j : Int) < (m : Int) := by omega
      clear hset hbx hgw htk hnx hln
      generalize T[j] = t at *
      by_cases ht0 : 0 ≤ t
      · by_cases htB : t < (B : Int)
        · obtain ⟨u, rfl⟩ : ∃ u : Nat, t = (u : Int) := ⟨t.toNat, by omega⟩
          go_wp2_with fail
          refine (Bt.put_any b g _ u _ HV.out.1 (by rw [HX.out.2]; omega)).mono ?_
          rintro e w5 ⟨rfl, hset5, hg5⟩
          have H5 := hide (And.intro hset5 (And.intro (heap_kept HV.out.2.1 hg5 (by simp; omega)) (grown_then HV.out.2.2 hg5 (fun k e => by cases e; exact Or.inl (by omega)))))
          clear hset5 hg5
          go_wp2
          go_roundg (gk - 1)
          case measure => omega
          case rel =>
            refine ⟨j + 1, by omega, by go_num, ?_, H5.out.2.1, H5.out.2.2⟩
            have h7 := H5.out.1
            rw [HX.out.1]
            unfold tk1
            rw [if_pos ⟨ht0, htB⟩]
            exact h7
        · go_wp2
          go_roundg (gk - 1)
          case measure => omega
          case rel =>
            refine ⟨j + 1, by omega, by go_num, ?_, HV.out.2.1, HV.out.2.2⟩
            rw [HX.out.1]
            unfold tk1
            rw [if_neg (fun h => absurd h.2 (by omega))]
            exact HV.out.1
      · go_wp2
        go_roundg (gk - 1)
        case measure => omega
        case rel =>
          refine ⟨j + 1, by omega, by go_num, ?_, HV.out.2.1, HV.out.2.2⟩
          rw [HX.out.1]
          unfold tk1
          rw [if_neg (fun h => absurd h.1 (by omega))]
          exact HV.out.1
    · have hj : j = m := by omega
      subst hj
      clear hset hbx hgw
      go_wp2
      go_ret3
      refine ⟨b, g, rfl, ?_, by omega, by omega, HV.out.2.2⟩
      have h7 := HV.out.1
      rw [← HL.out, List.take_length] at h7
      exact h7
end Go.Proofs.YtnnmaknjhfjojaaGreatDoor
/- What the chapter's examples tell. -/
namespace Go.Proofs.YtnnmaknjhfjojaaGreatDoor
open Go.RowKit Cx Pn
attribute [local go_sem ↓] Go.wp_at_zero Go.wp_at_succ

set_option maxHeartbeats 1000000 in
theorem sameInts_eq (ao bo : Option Addr) (n c d : Nat) (xs : List Int) (w : World) (hn : xs.length = n) (ha : At w ao xs) (hb : At w bo xs) (hm : n ≤ 4611686018427387904) :
    Calls Tryz.prog 18 #[.slice ao n c, .slice bo n d] w fun e w' => e = .returned (.bool true) ∧ w.grownBy w' none := by
  have HA := hide (And.intro hn (And.intro ha hb))
  clear hn ha hb
  go_enter Tryz.func18, Tryz.ntmps18
  go_wp2
  go_loopg [5] n (fun k i wr => ∃ j : Nat, k + j = n ∧ i = .int .i64 j ∧ w.grownBy wr none)
  case atStart => exact ⟨0, by omega, rfl, grown_refl _ _⟩
  case round =>
    obtain ⟨j, hkj, rfl, hg⟩ := hrel
    by_cases hk : 0 < gk
    · obtain ⟨hn, ha, hb⟩ := HA.out
      have hj : j < xs.length := by omega
      obtain ⟨a, rfl, hca⟩ := ha j xs[j] (by simp [hj])
      obtain ⟨b, rfl, hcb⟩ := hb j xs[j] (by simp [hj])
      have hca' := hg.cell hca (by simp)
      have hcb' := hg.cell hcb (by simp)
      have h1 : (0 : Int) ≤ (j : Int) := by omega
      have h2 : (j : Int) < (n : Int) := by omega
      generalize xs[j] = x at *
      clear hn ha hb hca hcb hj
      go_wp2
      go_quiet (fail)
      go_wp2
      go_roundg (gk - 1)
      case measure => omega
      case rel => exact ⟨j + 1, by omega, by go_num, grown_trans hg (grown_drewN _ _ _)⟩
    · have hj : j = n := by omega
      subst hj
      go_wp2
      go_ret
      exact ⟨rfl, hg⟩
theorem sameOwn_eq {w : World} {v u : Value} {b1 b2 n : Nat} {xs : List Int} (hv : w.ownsRow b1 3 1 v n (xs.map (Value.int .i64))) (hu : w.ownsRow b2 3 1 u n (xs.map (Value.int .i64))) (hn : n ≤ 65536) :
    Calls Tryz.prog 18 #[v, u] w fun e w' => e = .returned (.bool true) ∧ w.grownBy w' none := by
  obtain ⟨ao, cap, rfl, h1, h2, h3, h4, h5, h6⟩ := own_at hv
  obtain ⟨bo, cap', rfl, g1, g2, g3, g4, g5, g6⟩ := own_at hu
  exact sameInts_eq ao bo n cap cap' xs w h1 h4 g4 (by omega)
/-- A row that was laid as it is. -/
theorem own_laid (w : World) (xs : List Int) (base : Nat) (hb : base ≤ w.heap.size) (hx : xs.length ≤ 65536) : (w.alloc (.cells (xs.map (Value.int .i64)).toArray 3)).ownsRow base 3 1 (.slice (some ⟨w.heap.size, 0, none⟩) xs.length xs.length) xs.length (xs.map (Value.int .i64)) :=
  ⟨by simp, Or.inr ⟨w.heap.size, xs.length, _, rfl, hb, heap_alloc_new w _, Nat.le_refl _, by unfold maxLen; omega, by simp, by rw [List.take_of_length_le (by simp)]⟩⟩
theorem span_laid (w : World) (P : List (Nat × Nat)) (base : Nat) (hb : base ≤ w.heap.size) (hx : P.length ≤ 65536) : (w.alloc (.cells (spC P).toArray 64)).ownsRow base 64 2 (.slice (some ⟨w.heap.size, 0, none⟩) P.length P.length) P.length (spC P) :=
  ⟨by rw [spC_len]; omega, Or.inr ⟨w.heap.size, P.length, _, rfl, hb, heap_alloc_new w _, Nat.le_refl _, by unfold maxLen; omega, by simp [spC_len]; omega, by rw [List.take_of_length_le (by simp [spC_len]; omega)]⟩⟩
theorem Tab.pos {w : World} (h : Bt.Tab w) : 0 < w.heap.size := by
  have h1 := h 0 (by decide)
  rcases Nat.eq_zero_or_pos w.heap.size with e | e
  · have : w.heap = #[] := Array.eq_empty_of_size_eq_zero e
    simp [World.cell?, this] at h1
  · exact e
theorem cb_laid (w : World) (xs : List Int) (hx : xs.length ≤ 65536) : CbIn (w.alloc (.cells (xs.map (Value.int .i64)).toArray 3)) (some ⟨w.heap.size, 0, none⟩) xs.length xs.length xs := by
  obtain ⟨ao, cap, e, h, _⟩ := cb_own (own_laid w xs 0 (Nat.zero_le _) hx) (by omega)
  cases e
  exact h
def exS : List Bool := tkL 12 [1, 3, 9, 10, 11]
def exP : List (Nat × Nat) := [(0, 1), (2, 1), (4, 2), (6, 3)]
theorem ex_len : exS.length = 12 := tkL_len _ _
theorem ex_ok : Ok 2 6 [3] := by decide
theorem ex_bd : bdN 2 6 [3] 0 = 12 := by decide
theorem ex_dr : dr (fr exS) (bg 6 [3]) 12 = exP := by decide
theorem ex_gr : Gr exP 4 [(3, 3), (0, 1)] := by
  refine Gr.step exP 4 3 (6, 3) _ (by decide) rfl ⟨(6, 3), rfl, by decide, Or.inr ?_⟩ ?_
  · intro j q h
    match j, h with
    | 0, h => simp [exP] at h; subst h; decide
    | 1, h => simp [exP] at h; subst h; decide
    | 2, h => simp [exP] at h; subst h; decide
    | 3, h => simp [exP] at h; subst h; decide
    | j + 4, h => simp [exP] at h
  · refine Gr.step _ 1 0 (0, 1) _ (by decide) rfl ⟨(0, 1), rfl, by decide, Or.inl ⟨by decide, ?_⟩⟩ (Gr.done _)
    intro j q h hq
    match j, h with
    | 0, h => simp [exP] at h; subst h; decide
    | 1, h => simp [exP] at h; subst h; decide
    | 2, h => simp [exP] at h; subst h; decide
    | 3, h => simp [exP] at h; subst h; simp at hq
    | j + 4, h => simp [exP] at h
theorem ex_srt : srt exP [(3, 3), (0, 1)] 4 = [0, 6, 7, 8] := by decide

set_option maxHeartbeats 2000000 in
theorem awake_any (w : World) (hT : Bt.Tab w) : Calls Tryz.prog 15 #[] w fun e w' => e = .returned (.bool true) ∧ w.grownBy w' none := by
  have HT := hide hT
  clear hT
  go_enter Tryz.func15, Tryz.ntmps15
  go_wp2_with fail
  have c1 := cb_laid w [3] (by decide)
  have g1 := grown_alloc w (.cells (([3] : List Int).map (Value.int .i64)).toArray 3)
  generalize hw1 : w.alloc (.cells (([3] : List Int).map (Value.int .i64)).toArray 3) = w1 at c1 g1
  have hw1' : w.alloc (.cells #[.int .i64 3] 3) = w1 := hw1
  have e1 : w1.heap.size = w.heap.size + 1 := by rw [← hw1']; exact alloc_size _ _
  rw [hw1', ← e1]
  have g2 := grown_alloc w1 (.cells #[.int .i64 2, .int .i64 6, .slice (some ⟨w.heap.size, 0, none⟩) 1 1] 24)
  have x2 := heap_alloc_new w1 (.cells #[.int .i64 2, .int .i64 6, .slice (some ⟨w.heap.size, 0, none⟩) 1 1] 24)
  have e2 := alloc_size w1 (.cells #[.int .i64 2, .int .i64 6, .slice (some ⟨w.heap.size, 0, none⟩) 1 1] 24)
  generalize w1.alloc (.cells #[.int .i64 2, .int .i64 6, .slice (some ⟨w.heap.size, 0, none⟩) 1 1] 24) = w2 at g2 x2 e2 ⊢
  rw [← e2]
  have c3 := cb_laid w2 [1, 3, 9, 10, 11] (by decide)
  have g3 := grown_alloc w2 (.cells (([1, 3, 9, 10, 11] : List Int).map (Value.int .i64)).toArray 3)
  generalize hw3 : w2.alloc (.cells (([1, 3, 9, 10, 11] : List Int).map (Value.int .i64)).toArray 3) = w3 at c3 g3
  have hw3' : w2.alloc (.cells #[.int .i64 1, .int .i64 3, .int .i64 9, .int .i64 10, .int .i64 11] 3) = w3 := hw3
  rw [hw3']
  have G := grown_trans g1 (grown_trans g2 g3)
  have C1 := c1.grown (grown_trans g2 g3)
  have hb3 := heap_kept x2 g3 (by simp)
  have hsz := G.size
  clear c1 g1 hw1 hw1' g2 x2 g3 hw3 hw3'
  have HS := set_any 2 6 0 _ 1 1 [3] _ 5 5 [1, 3, 9, 10, 11] w3 C1 c3 (by have := Tab.pos HT.out; omega)
  rw [ex_bd] at HS
  refine HS.mono ?_
  rintro e w4 ⟨b, g, rfl, hset, -, -, hg4⟩
  have H4 := hide (And.intro (show Bt.SetAt w4 b g exS from hset) (And.intro (C1.grown hg4) (And.intro (heap_kept hb3 hg4 (by simp)) (And.intro (HT.out.kept (grown_trans G hg4) (by simp)) (grown_trans G hg4)))))
  obtain ⟨b0, b1, b2⟩ := box3 (heap_kept hb3 hg4 (by simp))
  rw [e1] at b0 b1 b2
  clear HS hset C1 c3 hb3 hg4 G
  go_wp2_with fail
  refine (runs_ok 2 6 _ 1 1 [3] b g exS w4 H4.out.2.1 ex_ok H4.out.1 H4.out.2.2.2.1 ex_len).mono ?_
  rw [show 2 * 6 = 12 from rfl, ex_dr]
  rintro e w5 ⟨v5, rfl, hown5, hg5⟩
  have H5 := hide (And.intro hown5 hg5)
  have b0' := hg5.cell b0 (by simp)
  have b1' := hg5.cell b1 (by simp)
  have b2' := hg5.cell b2 (by simp)
  clear hown5 hg5 b0 b1 b2
  go_wp2_with fail
  refine (seat_ok 2 6 _ 1 1 [3] b g exS 4 w5 (H4.out.2.1.grown H5.out.2) ex_ok (Set_grown H4.out.1 H5.out.2) (Tab_grown H4.out.2.2.2.1 H5.out.2) ex_len).mono ?_
  rw [show 2 * 6 = 12 from rfl, ex_dr]
  rintro e w6 ⟨hse, hg6⟩
  rcases hse with ⟨h, -⟩ | ⟨n, hn, -, -, ⟨h, -⟩ | ⟨-, v6, ps, rfl, hgr, hown6⟩⟩
  · omega
  · obtain rfl : n = 4 := by omega
    exact absurd h (by decide)
  · obtain rfl : n = 4 := by omega
    obtain rfl := ex_gr.uniq hgr
    rw [show exP.length = 4 from rfl, ex_srt] at hown6
    have H6 := hide (And.intro (span_grown H5.out.1 hg6) (And.intro hown6 (grown_trans H4.out.2.2.2.2 (grown_trans H5.out.2 hg6))))
    clear hgr hown6 hg6 b0' b1' b2' hn
    go_wp2_with fail
    have hal := grown_alloc w6 (.cells (spC exP).toArray 64)
    refine (sameSpans_eq (l := exP) (span_grown H6.out.1 hal) (span_laid w6 exP 0 (Nat.zero_le _) (by decide)) (by decide)).mono ?_
    rintro e w7 ⟨rfl, hg7⟩
    have H7 := hide (And.intro (own_grown (own_grown H6.out.2.1 hal) hg7) (grown_trans H6.out.2.2 (grown_trans hal hg7)))
    clear hal hg7
    go_wp2_with fail
    have hal := grown_alloc w7 (.cells (([0, 6, 7, 8] : List Int).map (Value.int .i64)).toArray 3)
    refine (sameOwn_eq (xs := [0, 6, 7, 8]) (own_grown H7.out.1 hal) (own_laid w7 [0, 6, 7, 8] 0 (Nat.zero_le _) (by decide)) (by decide)).mono ?_
    rintro e w8 ⟨rfl, hg8⟩
    have H8 := hide (grown_trans H7.out.2 (grown_trans hal hg8))
    clear hal hg8
    go_wp2
    go_ret
    exact ⟨rfl, H8.out⟩
end Go.Proofs.YtnnmaknjhfjojaaGreatDoor
/- What the rows' listed table gives; a world for the witnesses; arguments opened: cabins, what is asked, rows of numbers: shared by the rows' proofs. -/
namespace Go.Proofs.YtnnmaknjhfjojaaGreatDoor
open Go.ChangeShapes Go.WideShapes Go.ChangeAt Go.RowKit Go.Deep Cx

theorem seat_own : ownKnob Tryz.prog.godebug = none := by kernel_rfl
theorem seat_laid : laidOutB Tryz.prog = true := by kernel_rfl
theorem gTab : Tryz.prog.globalNamed "math/bits.deBruijn64tab" = some 0 := by kernel_rfl
theorem gTabType : (Tryz.prog.globals[0]?).map (·.type) = some 206 := by kernel_rfl
theorem cells206 : Tryz.prog.cellsOf 206 = 64 := by kernel_rfl
theorem cells5 : Tryz.prog.cellsOf 5 = 1 := by kernel_rfl
theorem cells3 : Tryz.prog.cellsOf 3 = 1 := by kernel_rfl
theorem bytes3 : Tryz.prog.bytesOf 3 = 8 := by kernel_rfl
theorem cells24 : Tryz.prog.cellsOf 24 = 3 := by kernel_rfl
theorem cells26 : Tryz.prog.cellsOf 26 = 5 := by kernel_rfl
theorem cells22 : Tryz.prog.cellsOf 22 = 1 := by kernel_rfl
def tabI : List Int := Lib.deBruijn64tab.map fun (x : Nat) => (x : Int)
theorem tabI_at : ∀ j, j < 64 → tabI.getD j 0 = ((Lib.deBruijn64tab.getD j 0 : Nat) : Int) := by decide
theorem table {W : World} (h : laidMetH Tryz.prog [("math/bits.deBruijn64tab", Rows.laid_math_bits_deBruijn64tab)] W) : Bt.Tab W := by
  have ht : Lib.TabIs Tryz.prog W "math/bits.deBruijn64tab" .u8 tabI := Lib.tabIs_of_head (rest := []) gTab gTabType Tryz.underlying206 Tryz.underlying5 cells5 cells206 h
  intro j hj
  rw [← tabI_at j hj]
  exact ht.cell gTab j hj

/-- A world for the witness: the table (block 0) holding what its initialiser lays. -/
noncomputable def laidWorld (os : Os) : World :=
  { World.holding Tryz.prog os ⟨#[], #[], []⟩ with heap := (World.holding Tryz.prog os ⟨#[], #[], []⟩).heap.modify 0 fun
      | .cells _ t frozen => .cells (tabI.map (Value.int .u8)).toArray t frozen
      | o => o }

theorem list3 {α : Type} {l : List α} (h : l.length = 3) : ∃ a b c, l = [a, b, c] := by
  match l, h with
  | [a, b, c], _ => exact ⟨a, b, c, rfl⟩
theorem list5 {α : Type} {l : List α} (h : l.length = 5) : ∃ a b c d e, l = [a, b, c, d, e] := by
  match l, h with
  | [a, b, c, d, e], _ => exact ⟨a, b, c, d, e, rfl⟩

variable {H : Type} {enc : TypeId × Value → H}
theorem open_rowI {w : World} {base fuel : Nat} {spare : Nat → Bool} {held : Bool} {cs : List Value} {x : DataW H × List MemPlace} (h : DataW.trod enc Tryz.prog w base spare held fuel 22 cs = some x) (hw : ∀ n ∈ x.1.weights Tryz.prog 22, n ≤ reachBytes) :
    ∃ ao n cap xs, cs = [.slice ao n cap] ∧ CbIn w ao n cap xs := by
  rcases open_ints Tryz.underlying22 Tryz.underlying3 cells3 h with ⟨rfl, _⟩ | ⟨a, len, cap, zs, rfl, _, hl, hm, hz, rfl, hcell, hwf⟩
  · exact ⟨none, 0, 0, [], rfl, ⟨At.nil _ _, rfl, fun _ => ⟨rfl, rfl⟩, by omega, by unfold maxLen; omega, by omega⟩⟩
  · have h1 := hw (((lits .i64 (zs.take len) : List (DataW H)).length + (lits .i64 (zs.drop len) : List (DataW H)).length) * 8) (by
      simp [DataW.weights, Tryz.underlying22, bytes3])
    simp only [lits, List.length_map, List.length_take, List.length_drop, reachBytes] at h1
    have hzl : len ≤ zs.length := by rw [hz]; split <;> omega
    refine ⟨some a, len, cap, zs.take len, rfl, ⟨?_, by simp; omega, (fun e => by cases e), hl, hm, by omega⟩⟩
    intro j u hu
    rw [List.getElem?_take] at hu
    split at hu
    · obtain ⟨hj, he⟩ := List.getElem?_eq_some_iff.1 hu
      exact ⟨a, rfl, by rw [hcell j hj]; simp [hj, he]⟩
    · cases hu
set_option maxRecDepth 100000 in
/-- An argument that is a cabin. -/
theorem open_cabinArg {w : World} {base : Nat} {spare : Nat → Bool} {held : Bool} {r : Reach} {b0 : Nat} {v : Value} {d : DataW H} {ps : List MemPlace} (hval : Value.okWide Tryz.prog w r b0 24 v) (hd : DataW.Trod enc Tryz.prog w base spare held 24 v d ps) (hz : ∀ n ∈ d.weights Tryz.prog 24, n ≤ reachBytes) :
    ∃ (R W : Int) (ao : Option Addr) (n cap : Nat) (L : List Int), v = cbV R W (.slice ao n cap) ∧ CbIn w ao n cap L ∧ (-9223372036854775808 ≤ R ∧ R ≤ 9223372036854775807) ∧ (-9223372036854775808 ≤ W ∧ W ≤ 9223372036854775807) := by
  obtain ⟨cs, rfl, _⟩ := okWide_struct Tryz.underlying24 hval
  obtain ⟨fuel, h⟩ := hd
  have h : DataW.trod enc Tryz.prog w base spare held fuel 24 cs.toList = some (d, ps) := h
  obtain ⟨xs, n, _, hx, hl, hsz, hf⟩ := DataW.trod_struct Tryz.underlying24 h
  rw [cells24] at hl
  obtain ⟨v0, v1, v2, hc⟩ := list3 hl
  obtain ⟨y0, y1, y2, rfl⟩ := list3 (show xs.length = 3 from hsz)
  rw [hc] at hf
  have f0 : DataW.trod enc Tryz.prog w base spare held n 3 [v0] = some y0 := by simpa [cells3] using hf 0 _ rfl
  have f1 : DataW.trod enc Tryz.prog w base spare held n 3 [v1] = some y1 := by simpa [cells3] using hf 1 _ rfl
  have f2 : DataW.trod enc Tryz.prog w base spare held n 22 [v2] = some y2 := by simpa [cells22, cells3] using hf 2 _ rfl
  obtain ⟨e, e0, rfl, we⟩ := DataW.trod_int Tryz.underlying3 f0
  obtain ⟨s, e1, rfl, ws⟩ := DataW.trod_int Tryz.underlying3 f1
  have hd : d = .agg [.lit (.int .i64 e), .lit (.int .i64 s), y2.1] := by
    have := congrArg Prod.fst hx
    simpa using this
  obtain ⟨ao, m, cap, b, e2, hB⟩ := open_rowI f2 (fun k hk => hz k (by
    rw [hd]
    simp only [DataW.weights, Tryz.underlying24]
    simp [DataW.weightsEach, DataW.weights, hk]))
  simp only [List.cons.injEq, and_true] at e0 e1 e2
  have be := bounds_i64 we
  have bs := bounds_i64 ws
  refine ⟨e, s, ao, m, cap, b, ?_, hB, ⟨by omega, by omega⟩, ⟨by omega, by omega⟩⟩
  rw [e0, e1, e2] at hc
  unfold cbV
  congr 1
  cases cs
  simpa using hc
set_option maxRecDepth 100000 in
theorem open_cabCells {w : World} {base fuel : Nat} {spare : Nat → Bool} {held : Bool} {cs : List Value} {x : DataW H × List MemPlace} (h : DataW.trod enc Tryz.prog w base spare held fuel 24 cs = some x) (hz : ∀ n ∈ x.1.weights Tryz.prog 24, n ≤ reachBytes) :
    ∃ (R W : Int) (ao : Option Addr) (n cap : Nat) (L : List Int), cs = [.int .i64 R, .int .i64 W, .slice ao n cap] ∧ CbIn w ao n cap L := by
  obtain ⟨xs, n, _, hx, hl, hsz, hf⟩ := DataW.trod_struct Tryz.underlying24 h
  rw [cells24] at hl
  obtain ⟨v0, v1, v2, rfl⟩ := list3 hl
  obtain ⟨y0, y1, y2, rfl⟩ := list3 (show xs.length = 3 from hsz)
  have f0 : DataW.trod enc Tryz.prog w base spare held n 3 [v0] = some y0 := by simpa [cells3] using hf 0 _ rfl
  have f1 : DataW.trod enc Tryz.prog w base spare held n 3 [v1] = some y1 := by simpa [cells3] using hf 1 _ rfl
  have f2 : DataW.trod enc Tryz.prog w base spare held n 22 [v2] = some y2 := by simpa [cells22, cells3] using hf 2 _ rfl
  obtain ⟨e, e0, rfl, we⟩ := DataW.trod_int Tryz.underlying3 f0
  obtain ⟨s, e1, rfl, ws⟩ := DataW.trod_int Tryz.underlying3 f1
  have hd : x.1 = .agg [.lit (.int .i64 e), .lit (.int .i64 s), y2.1] := by
    have := congrArg Prod.fst hx
    simpa using this
  obtain ⟨ao, m, cap, b, e2, hB⟩ := open_rowI f2 (fun k hk => hz k (by
    rw [hd]
    simp only [DataW.weights, Tryz.underlying24]
    simp [DataW.weightsEach, DataW.weights, hk]))
  simp only [List.cons.injEq, and_true] at e0 e1 e2
  exact ⟨e, s, ao, m, cap, b, by rw [e0, e1, e2], hB⟩
set_option maxRecDepth 100000 in
/-- An argument that is what is asked. -/
theorem open_askArg {w : World} {base : Nat} {spare : Nat → Bool} {held : Bool} {r : Reach} {b0 : Nat} {v : Value} {d : DataW H} {ps : List MemPlace} (hval : Value.okWide Tryz.prog w r b0 26 v) (hd : DataW.Trod enc Tryz.prog w base spare held 26 v d ps) (hz : ∀ n ∈ d.weights Tryz.prog 26, n ≤ reachBytes) :
    ∃ (R W : Int) (ao : Option Addr) (n cap : Nat) (L : List Int) (to : Option Addr) (m tc : Nat) (T : List Int) (o : Int), v = askV R W (.slice ao n cap) (.slice to m tc) o ∧ CbIn w ao n cap L ∧ CbIn w to m tc T := by
  obtain ⟨cs, rfl, _⟩ := okWide_struct Tryz.underlying26 hval
  obtain ⟨fuel, h⟩ := hd
  have h : DataW.trod enc Tryz.prog w base spare held fuel 26 cs.toList = some (d, ps) := h
  obtain ⟨xs, n, _, hx, hl, hsz, hf⟩ := DataW.trod_struct Tryz.underlying26 h
  rw [cells26] at hl
  obtain ⟨v0, v1, v2, v3, v4, hc⟩ := list5 hl
  obtain ⟨y0, y1, y2, rfl⟩ := list3 (show xs.length = 3 from hsz)
  rw [hc] at hf
  have f0 : DataW.trod enc Tryz.prog w base spare held n 24 [v0, v1, v2] = some y0 := by simpa [cells24] using hf 0 _ rfl
  have f1 : DataW.trod enc Tryz.prog w base spare held n 22 [v3] = some y1 := by simpa [cells22, cells24] using hf 1 _ rfl
  have f2 : DataW.trod enc Tryz.prog w base spare held n 3 [v4] = some y2 := by simpa [cells22, cells24, cells3] using hf 2 _ rfl
  have hd : d = .agg [y0.1, y1.1, y2.1] := by
    have := congrArg Prod.fst hx
    simpa using this
  obtain ⟨R, W, ao, k, cap, L, e0, hB⟩ := open_cabCells f0 (fun k hk => hz k (by
    rw [hd]
    simp only [DataW.weights, Tryz.underlying26]
    simp [DataW.weightsEach, hk]))
  obtain ⟨to, m, tc, T, e1, hT⟩ := open_rowI f1 (fun k hk => hz k (by
    rw [hd]
    simp only [DataW.weights, Tryz.underlying26]
    simp [DataW.weightsEach, hk]))
  obtain ⟨o, e2, -, -⟩ := DataW.trod_int Tryz.underlying3 f2
  simp only [List.cons.injEq, and_true] at e0 e1 e2
  obtain ⟨e00, e01, e02⟩ := e0
  refine ⟨R, W, ao, k, cap, L, to, m, tc, T, o, ?_, hB, hT⟩
  rw [e00, e01, e02, e1, e2] at hc
  unfold askV
  congr 1
  cases cs
  simpa using hc
set_option maxRecDepth 100000 in
/-- An argument that is a row of numbers. -/
theorem open_rowArg {w : World} {base : Nat} {spare : Nat → Bool} {held : Bool} {r : Reach} {b0 : Nat} {v : Value} {d : DataW H} {ps : List MemPlace} (hval : Value.okWide Tryz.prog w r b0 22 v) (hd : DataW.Trod enc Tryz.prog w base spare held 22 v d ps) (hz : ∀ n ∈ d.weights Tryz.prog 22, n ≤ reachBytes) :
    ∃ (ao : Option Addr) (n cap : Nat) (L : List Int), v = .slice ao n cap ∧ CbIn w ao n cap L := by
  obtain ⟨a, len, cap, rfl⟩ := okWide_slice Tryz.underlying22 hval
  obtain ⟨fuel, h⟩ := hd
  obtain ⟨ao, n, c, L, e, hB⟩ := open_rowI h hz
  have e : [Value.slice a len cap] = [.slice ao n c] := e
  simp only [List.cons.injEq, and_true] at e
  exact ⟨ao, n, c, L, e, hB⟩
end Go.Proofs.YtnnmaknjhfjojaaGreatDoor
/- The document's numbers in a list, beginnings of blocks. -/
namespace Go.Proofs.YtnnmaknjhfjojaaGreatDoor
open Go.RowKit Cx Pn
attribute [local go_sem ↓] Go.wp_at_zero Go.wp_at_succ

theorem con_snoc (L : List Int) (a x : Int) : (L ++ [a]).contains x = (L.contains x || (x == a)) := by
  rw [List.contains_eq_any_beq, List.contains_eq_any_beq, List.any_append]; simp
theorem con_mem {L : List Int} {j : Nat} (hj : j < L.length) : L.contains L[j] = true := by
  rw [List.contains_iff_mem]; exact List.getElem_mem hj
set_option maxHeartbeats 1000000 in
theorem rhas_any (ao : Option Addr) (n cap : Nat) (L : List Int) (x : Int) (w : World) (hc : CbIn w ao n cap L) :
    Calls Tryz.prog 40 #[.slice ao n cap, .int .i64 x] w fun e w' => e = .returned (.bool (L.contains x)) ∧ w' = w := by
  have hlen := hc.len
  have hsm := hc.sm
  obtain ⟨z, hz0⟩ : ∃ z, z = L.contains x := ⟨_, rfl⟩
  rw [← hz0]
  have HC := hide (And.intro hc (And.intro hlen hz0))
  clear hc hlen hz0
  go_enter Tryz.func40, Tryz.ntmps40
  go_wp2
  go_loopg [5] n (fun k i wr => ∃ j : Nat, k + j = n ∧ i = .int .i64 (j : Int) ∧ (L.take j).contains x = false ∧ wr = w)
  case atStart => exact ⟨0, by omega, rfl, rfl, rfl⟩
  case round =>
    obtain ⟨j, hkj, rfl, hno, rfl⟩ := hrel
    have HN := hide hno
    clear hno
    by_cases hk : 0 < gk
    · have hj : j < L.length := by rw [HC.out.2.1]; omega
      obtain ⟨a, rfl, hcell⟩ := HC.out.1.cell hj
      have htk : L.take (j + 1) = L.take j ++ [L[j]] := by rw [List.take_add_one, List.getElem?_eq_getElem hj]; rfl
      have hmem := con_mem hj
      have H := hide (And.intro htk hmem)
      have h5 : (0 : Int) ≤ (j : Int) := by omega
      have h6 : (j : Int) < (n : Int) := by omega
      clear htk hmem
      generalize L[j] = y at *
      by_cases he : y = x
      · have hb : (y == x) = true := by simpa using he
        have hz : z = true := by rw [HC.out.2.2, ← he]; exact H.out.2
        subst hz
        clear he
        go_wp2
        go_ret
        exact ⟨rfl, rfl⟩
      · have hb : (y == x) = false := by simpa using he
        have hb2 : (x == y) = false := by simpa using fun e => he e.symm
        have HB := hide hb2
        clear he hb2
        go_wp2
        go_roundg (gk - 1)
        case measure => omega
        case rel => exact ⟨j + 1, by omega, by go_num, by rw [H.out.1, con_snoc, HN.out, HB.out]; rfl, rfl⟩
    · have hj : j = n := by omega
      subst hj
      have hz : z = false := by rw [HC.out.2.2]; have := HN.out; rw [← HC.out.2.1, List.take_length] at this; exact this
      subst hz
      go_wp2
      go_ret
      exact ⟨rfl, rfl⟩
set_option maxHeartbeats 2000000 in
theorem rbeg_any (R : Int) (W : Nat) (ao : Option Addr) (n cap : Nat) (L : List Int) (s : Nat) (w : World) (hc : CbIn w ao n cap L) (h0 : 1 ≤ W) (h1 : W ≤ 16) :
    Calls Tryz.prog 30 #[cbV R W (.slice ao n cap), .int .i64 s] w fun e w' => e = .returned (.bool (bg W L s)) ∧ w.grownBy w' none := by
  have hG := grown_alloc w (.cells #[.int .i64 R, .int .i64 W, .slice ao n cap] 24)
  have hX := heap_alloc_new w (.cells #[.int .i64 R, .int .i64 W, .slice ao n cap] 24)
  have hq := Nat.mod_lt s (show W > 0 by omega)
  have hb : bg W L s = (s % W == 0 || ai L (s % W)) := rfl
  have ht := tmod_nat s W
  rw [hb]
  clear hb
  have H := hide (fun (q : Nat) w' (hg : w.grownBy w' none) => rhas_any ao n cap L (q : Int) w' (hc.grown hg))
  have HG := hide hG
  clear hc hG
  have hne : ((W : Int) == 0) = false := by simp; omega
  generalize s % W = q at *
  obtain ⟨b0, b1, b2⟩ := box3 hX
  have HX := hide hX
  clear hX
  unfold cbV
  by_cases h2 : q = 0
  · subst h2
    go_enter Tryz.func30, Tryz.ntmps30
    go_wp2
    go_quiet (fail)
    go_wp2
    go_ret
    exact ⟨rfl, grown_trans HG.out (grown_drewN _ _ _)⟩
  · have h4 : (q == 0) = false := by simpa using h2
    have h5 : ((q : Int) == 0) = false := by simp; omega
    rw [h4]
    have hai : (false || ai L q) = L.contains (q : Int) := rfl
    rw [hai]
    have hwq : IntKind.i64.wrap (q : Int) = (q : Int) := by rw [IntKind.wrap_i64]; omega
    have hwt : IntKind.i64.wrap ((s : Int).tmod (W : Int)) = (q : Int) := by rw [ht]; exact hwq
    have hW1 : (W : Int) ≠ 0 := by omega
    have hW2 : ¬ (W : Int) = 0 := by omega
    have hW3 : ¬ W = 0 := by omega
    have hW4 : (0 : Int) < (W : Int) := by omega
    have hq0 : (0 : Int) ≤ (q : Int) := by omega
    have H := hide (H.out q)
    generalize L.contains (q : Int) = V at *
    clear h4 hai h2
    go_enter Tryz.func30, Tryz.ntmps30
    go_wp2
    go_region_held3 (fun w' => w'.cell? ⟨w.heap.size, 1, none⟩ = some (.int .i64 (W : Int)) ∧ w'.cell? ⟨w.heap.size, 2, none⟩ = some (.slice ao n cap)) (first | (exact ⟨b1, b2⟩) | assumption | go_keep) ((go_at_call 40; refine (H.out _ ?_).mono ?_; exact (grown_trans HG.out (grown_drew _ _)); rintro e w1 ⟨rfl, rfl⟩; have hk1 : (w.alloc (.cells #[.int .i64 R, .int .i64 W, .slice ao n cap] 24)).drew.cell? ⟨w.heap.size, 1, none⟩ = some (.int .i64 (W : Int)) ∧ (w.alloc (.cells #[.int .i64 R, .int .i64 W, .slice ao n cap] 24)).drew.cell? ⟨w.heap.size, 2, none⟩ = some (.slice ao n cap) := ⟨b1, b2⟩))
    go_wp2
    go_ret
    exact ⟨rfl, grown_trans HG.out (grown_drew _ _)⟩
end Go.Proofs.YtnnmaknjhfjojaaGreatDoor
/- The document's free seats. -/
namespace Go.Proofs.YtnnmaknjhfjojaaGreatDoor
open Go.RowKit Cx Pn
attribute [local go_sem ↓] Go.wp_at_zero Go.wp_at_succ

/-- A row of m truths. -/
def rowB (m : Nat) (X : Nat → Bool) : List Value := (List.range m).map fun j => Value.bool (X j)
theorem rowB_len (m : Nat) (X : Nat → Bool) : (rowB m X).length = m := by simp [rowB]
theorem rowB_get {m j : Nat} (X : Nat → Bool) (h : j < m) : (rowB m X)[j]? = some (Value.bool (X j)) := by simp [rowB, h]
theorem rowB_congr {m : Nat} {X Y : Nat → Bool} (h : ∀ j, j < m → X j = Y j) : rowB m X = rowB m Y := by
  unfold rowB
  apply List.map_congr_left
  intro j hj
  rw [h j (List.mem_range.1 hj)]
theorem rowB_set (m p : Nat) (v : Bool) (X : Nat → Bool) : (rowB m X).set p (Value.bool v) = rowB m fun j => if j = p then v else X j := by
  apply List.ext_getElem?
  intro j
  rw [List.getElem?_set]
  by_cases h : p = j
  · subst h
    rw [if_pos rfl, rowB_len]
    by_cases hp : p < m
    · rw [if_pos hp, rowB_get _ hp, if_pos rfl]
    · rw [if_neg hp, List.getElem?_eq_none (by rw [rowB_len]; omega)]
  · rw [if_neg h]
    by_cases hp : j < m
    · rw [rowB_get _ hp, rowB_get _ hp, if_neg (fun e => h e.symm)]
    · rw [List.getElem?_eq_none (by rw [rowB_len]; omega), List.getElem?_eq_none (by rw [rowB_len]; omega)]
theorem rowB_no (m : Nat) : rowB m (fun _ => false) = List.replicate m (Value.bool false) := by
  unfold rowB
  rw [List.map_const']
  simp
theorem rowB_cell {w : World} {g m j : Nat} {X : Nat → Bool} (h : w.heap[g]? = some (.cells (rowB m X).toArray 4)) (hj : j < m) : w.cell? ⟨g, j, none⟩ = some (.bool (X j)) := by
  rw [cell_row h, rowB_get _ hj]
theorem made_bools (n : Nat) : madeCells #[Value.bool false] n = (List.replicate n (Value.bool false)).toArray := by
  unfold madeCells
  apply Array.ext'
  simp [Nat.mod_one, List.map_const']
theorem binfo4 : (Tryz.prog.info? 4).map (fun i => (i.zero, i.size, i.bytes)) = some (some (.bool false), 1, 1) := by kernel_rfl
theorem make_bools (n : Nat) (h : n ≤ 2000) (w : World) : (Instr.makeSlice 67 (.int .i64 (n : Int)) (.int .i64 (n : Int))).run Tryz.prog w = .ok (.slice (some ⟨w.heap.size, 0, none⟩) n n) (w.alloc (.cells (rowB n fun _ => false).toArray 4)) := by
  obtain ⟨i0, hi, hz0, hz1, hz2⟩ := info_parts binfo4
  have h1 : (n : Int).toNat = n := Int.toNat_natCast n
  have h2 : (Value.bool false).cells = #[Value.bool false] := rfl
  rw [run_make (P := Tryz.prog) (w := w) 67 4 i0 (.bool false) Tryz.underlying67 hi hz0 .i64 .i64 (n : Int) (n : Int) (by omega) (by omega) (by rw [hz2]; omega) (by omega), hz1, h1, h2, Nat.mul_one, made_bools, rowB_no]
theorem fr_start {n x : Nat} (h : x < n) : fr (tkL n []) x = true := by
  unfold fr tkL
  rw [List.getD_eq_getElem?_getD]
  simp [h]
theorem fr_take (n : Nat) (S : List Bool) (t : Int) (hl : S.length = n) {x : Nat} (hx : x < n) : fr (tk1 n S t) x = if 0 ≤ t ∧ t < (n : Int) ∧ (x : Int) = t then false else fr S x := by
  unfold tk1 fr
  by_cases h : 0 ≤ t ∧ t < (n : Int)
  · rw [if_pos h]
    by_cases e : t.toNat = x
    · have ex : (x : Int) = t := by omega
      rw [if_pos ⟨h.1, h.2, ex⟩, List.getD_eq_getElem?_getD, e, List.getElem?_set_self (by omega)]; rfl
    · rw [if_neg (fun hh => by omega), List.getD_eq_getElem?_getD, List.getElem?_set_ne e, List.getD_eq_getElem?_getD]
  · rw [if_neg h, if_neg (fun hh => h ⟨hh.1, hh.2.1⟩)]

set_option maxHeartbeats 2000000 in
theorem rfree_any (R W M : Nat) (ao : Value) (to : Option Addr) (m tc : Nat) (T : List Int) (w : World) (ht : CbIn w to m tc T) (hM : R * W = M) (hM1 : 1 ≤ M) (hM2 : M ≤ 1024) (_hR : R ≤ 64) (_hW : W ≤ 16) :
    Calls Tryz.prog 29 #[cbV R W ao, .slice to m tc] w fun e w' => ∃ g, e = .returned (.slice (some ⟨g, 0, none⟩) M M) ∧ w'.heap[g]? = some (.cells (rowB M (fr (tkL M T))).toArray 4) ∧ w.heap.size ≤ g ∧ w.grownBy w' none := by
  have hG := grown_alloc w (.cells #[.int .i64 (R : Int), .int .i64 (W : Int), ao] 24)
  have hX := heap_alloc_new w (.cells #[.int .i64 (R : Int), .int .i64 (W : Int), ao] 24)
  have hS := alloc_size w (.cells #[.int .i64 (R : Int), .int .i64 (W : Int), ao] 24)
  have hmul : (R : Int) * (W : Int) = (M : Int) := by rw [← hM]; simp
  obtain ⟨b0, b1, b2⟩ := box3 hX
  have htl := ht.len
  have hts := ht.sm
  have HT := hide (And.intro ht htl)
  unfold cbV
  clear ht htl hX hM
  generalize hw0 : w.alloc (.cells #[.int .i64 (R : Int), .int .i64 (W : Int), ao] 24) = w1 at *
  have hw1 : w1 = w.alloc (.cells #[.int .i64 (R : Int), .int .i64 (W : Int), ao] 24) := hw0.symm
  have hmk := make_bools M (by omega) w1
  rw [hw1] at hmk b0 b1
  have HG := hide (And.intro hG (And.intro hS hw0))
  clear hG hS hw0 hw1 b2
  go_enter Tryz.func29, Tryz.ntmps29
  go_wp2
  have hga := grown_alloc (w.alloc (.cells #[.int .i64 (R : Int), .int .i64 (W : Int), ao] 24)) (.cells (rowB M fun _ => false).toArray 4)
  have hxa := heap_alloc_new (w.alloc (.cells #[.int .i64 (R : Int), .int .i64 (W : Int), ao] 24)) (.cells (rowB M fun _ => false).toArray 4)
  rw [alloc_size] at hxa
  have HA := hide (And.intro (grown_trans (grown_alloc w _) hga) hxa)
  generalize (w.alloc (.cells #[.int .i64 (R : Int), .int .i64 (W : Int), ao] 24)).alloc (.cells (rowB M fun _ => false).toArray 4) = w2 at *
  clear hga hxa hmk b0 b1 HG
  go_loopg [6] M (fun k i wr => ∃ j : Nat, k + j = M ∧ i = .int .i64 (j : Int) ∧ wr.heap[w.heap.size + 1]? = some (.cells (rowB M fun x => decide (x < j)).toArray 4) ∧ w.grownBy wr none)
  case atStart =>
    refine ⟨0, by omega, rfl, ?_, HA.out.1⟩
    rw [HA.out.2, rowB_congr (Y := fun x => decide (x < 0)) (fun x _ => by simp)]
  case round =>
    obtain ⟨j, hkj, rfl, hr, hg⟩ := hrel
    by_cases hk : 0 < gk
    · have hcl := rowB_cell hr (show j < M by omega)
      have hfz := free_row hr j
      have h5 : (0 : Int) ≤ (j : Int) := by omega
      have h6 : (j : Int) < (M : Int) := by omega
      have hset := row_setCell hr j (.bool true)
      rw [rowB_set, rowB_congr (Y := fun x => decide (x < j + 1)) (fun x _ => by
        by_cases e : x = j
        · rw [if_pos e]; simp; omega
        · rw [if_neg e]; congr 1; simp; omega)] at hset
      have HZ := hide (And.intro hset (grown_then hg (grown_setCell wr (w.heap.size + 1) j (.bool true)) (fun k e => by cases e; exact Or.inl (by omega))))
      clear hset hr hg
      go_wp2
      go_roundg (gk - 1)
      case measure => omega
      case rel => exact ⟨j + 1, by omega, by go_num, HZ.out.1, HZ.out.2⟩
    · have hj : j = M := by omega
      subst hj
      rw [rowB_congr (Y := fr (tkL j (T.take 0))) (fun x hx => by rw [List.take_zero, fr_start hx]; simp; omega)] at hr
      have HB := hide (And.intro hr hg)
      clear hr hg
      go_wp2
      go_loopg [7] m (fun k i wr => ∃ t : Nat, k + t = m ∧ i = .int .i64 (t : Int) ∧ wr.heap[w.heap.size + 1]? = some (.cells (rowB j (fr (tkL j (T.take t)))).toArray 4) ∧ w.grownBy wr none)
      case atStart => exact ⟨0, by omega, rfl, HB.out.1, HB.out.2⟩
      case round =>
        obtain ⟨t, hkt, rfl, hr, hg⟩ := hrel
        by_cases hk2 : 0 < gk
        · have ht : t < T.length := by rw [HT.out.2]; omega
          obtain ⟨a, rfl, hcell⟩ := (HT.out.1.grown hg).cell ht
          have htk : T.take (t + 1) = T.take t ++ [T[t]] := by rw [List.take_add_one, List.getElem?_eq_getElem ht]; rfl
          have hnx : tkL j (T.take (t + 1)) = tk1 j (tkL j (T.take t)) T[t] := by rw [htk, tkL_snoc]
          have hln := tkL_len j (T.take t)
          have h5 : (0 : Int) ≤ (t : Int) := by omega
          have h6 : (t : Int) < (m : Int) := by omega
          have HX := hide (And.intro hnx hln)
          have HR := hide (And.intro hr hg)
          clear htk hnx hln
          generalize T[t] = x at *
          by_cases hx0 : 0 ≤ x
          · by_cases hxM : x < (j : Int)
            · obtain ⟨u, rfl⟩ : ∃ u : Nat, x = (u : Int) := ⟨x.toNat, by omega⟩
              have hcl := rowB_cell hr (show u < j by omega)
              have hfz := free_row hr u
              have hset := row_setCell hr u (.bool false)
              rw [rowB_set] at hset
              have HZ := hide (And.intro hset (grown_then hg (grown_setCell wr (w.heap.size + 1) u (.bool false)) (fun k e => by cases e; exact Or.inl (by omega))))
              clear hset hr hg
              go_wp2
              go_roundg (gk - 1)
              case measure => omega
              case rel =>
                refine ⟨t + 1, by omega, by go_num, ?_, HZ.out.2⟩
                rw [HX.out.1, HZ.out.1]
                congr 3
                exact rowB_congr (fun y hy => by
                  rw [fr_take j _ _ HX.out.2 hy]
                  by_cases e : y = u
                  · rw [if_pos e, if_pos ⟨hx0, hxM, by omega⟩]
                  · rw [if_neg e, if_neg (fun h => e (by omega))])
            · clear hr hg
              go_wp2
              go_roundg (gk - 1)
              case measure => omega
              case rel =>
                refine ⟨t + 1, by omega, by go_num, ?_, HR.out.2⟩
                rw [HX.out.1, HR.out.1]
                congr 3
                exact rowB_congr (fun y hy => by rw [fr_take j _ _ HX.out.2 hy, if_neg (fun h => absurd h.2.1 (by omega))])
          · clear hr hg
            go_wp2
            go_roundg (gk - 1)
            case measure => omega
            case rel =>
              refine ⟨t + 1, by omega, by go_num, ?_, HR.out.2⟩
              rw [HX.out.1, HR.out.1]
              congr 3
              exact rowB_congr (fun y hy => by rw [fr_take j _ _ HX.out.2 hy, if_neg (fun h => absurd h.1 (by omega))])
        · have ht : t = m := by omega
          subst ht
          have HR := hide (And.intro hr hg)
          clear hr hg
          go_wp2
          go_ret
          refine ⟨w.heap.size + 1, rfl, ?_, by omega, HR.out.2⟩
          rw [HR.out.1, ← HT.out.2, List.take_length]
end Go.Proofs.YtnnmaknjhfjojaaGreatDoor
