/- The contracts of Text and Parse. -/
import Derived.Test.YtomoclicbjkpoabDoorCe
import Derived.Laws.Concat
namespace Go.Proofs.YtomoclicbjkpoabDoor
open Go.RowKit Cx
attribute [local go_sem ↓] Go.wp_at_zero Go.wp_at_succ

theorem size_str (l : List UInt8) : (⟨l.toArray⟩ : ByteArray).size = l.length := by show l.toArray.size = _; simp
theorem app_str (a b : List UInt8) : (⟨a.toArray⟩ : ByteArray) ++ ⟨b.toArray⟩ = ⟨(a ++ b).toArray⟩ := by
  cases h : (⟨a.toArray⟩ : ByteArray) ++ ⟨b.toArray⟩ with
  | mk d =>
    have := congrArg ByteArray.data h
    simp at this
    rw [← this]
set_option maxHeartbeats 1000000 in
theorem text_bad (R W : Int) (ao : Option Addr) (n cap : Nat) (L : List Int) (x : Int) (w : World) (hc : CbIn w ao n cap L) (hz : wrg R W L [x] ≠ 0) :
    Calls Tryd.prog 10 #[cbV R W (.slice ao n cap), .int .i64 x] w fun e w' => e = .returned (.tuple #[str [], .int .i64 (wrg R W L [x])]) ∧ w.grownBy w' none := by
  have C := hide (fun w' (hg : w.grownBy w' none) => place_bad R W ao n cap L x w' (hc.grown hg) hz)
  generalize wrg R W L [x] = z at *
  have hz1 : (z == 0) = false := by simpa using hz
  clear hc
  unfold cbV str at *
  go_enter Tryd.func10, Tryd.ntmps10
  go_wp2_with fail
  refine (C.out _ (grown_alloc w _)).mono ?_
  rintro e w1 ⟨rfl, hg1⟩
  have G1 := hide (grown_trans (grown_alloc w _) hg1)
  clear hg1
  go_wp2
  go_ret2
  exact ⟨rfl, G1.out⟩
set_option maxHeartbeats 1000000 in
theorem text_ok (R : Int) (W : Nat) (ao : Option Addr) (n cap : Nat) (L : List Int) (s : Nat) (w : World) (hc : CbIn w ao n cap L) (ho : Ok R W L) (hs : (s : Int) < R * W) :
    Calls Tryd.prog 10 #[cbV R W (.slice ao n cap), .int .i64 s] w fun e w' => e = .returned (.tuple #[str (txt W s), .int .i64 0]) ∧ w.grownBy w' none := by
  have C := hide (fun w' (hg : w.grownBy w' none) => place_ok R W ao n cap L s w' (hc.grown hg) ho hs)
  have hW := ho.2.2.1
  have h7 := ho.2.2.2.1
  have hR := ho.2.1
  have hR1 := ho.1
  have h6 := Nat.mod_lt s (show W > 0 by omega)
  have hr : s / W < 64 := by
    obtain ⟨r, rfl⟩ : ∃ r : Nat, R = (r : Int) := ⟨R.toNat, by omega⟩
    have h9 : (s : Int) < ((r * W : Nat) : Int) := by rw [Int.natCast_mul]; exact hs
    have h8 := Cx.row_lt (R := r) (W := W) (s := s) (by omega) (by omega)
    omega
  have I := hide (itoa_any (s / W + 1) (by omega))
  have hsl := slice_letter (s % W) (by omega)
  have hadd : ∀ w', (Op.stringOp .add ⟨(dg (s / W + 1)).toArray⟩ ⟨[lt (s % W)].toArray⟩).run Tryd.prog w' = .ok (.string ⟨(dg (s / W + 1) ++ [lt (s % W)]).toArray⟩) w' := fun w' => by
    have h9 := dg_len (s / W + 1)
    rw [← app_str]
    have e1 := size_str (dg (s / W + 1))
    have e2 := size_str [lt (s % W)]
    exact run_string_add_sum _ ⟨(dg (s / W + 1)).toArray⟩ ⟨[lt (s % W)].toArray⟩ (by rw [e1, e2, List.length_singleton]; omega)
  unfold txt
  unfold str at *
  generalize (⟨(dg (s / W + 1) ++ [lt (s % W)]).toArray⟩ : ByteArray) = st at *
  generalize (⟨(dg (s / W + 1)).toArray⟩ : ByteArray) = sa at *
  generalize (⟨[lt (s % W)].toArray⟩ : ByteArray) = sb at *
  have e1 : ((s / W + 1 : Nat) : Int) = ((s / W : Nat) : Int) + 1 := by omega
  rw [e1] at I
  clear e1
  generalize s / W = r at *
  generalize s % W = c at *
  have hwr : IntKind.i64.wrap ((r : Int) + 1) = (r : Int) + 1 := IntWalk.i64_in _ (by omega)
  have hwc : IntKind.i64.wrap ((c : Int) + 1) = (c : Int) + 1 := IntWalk.i64_in _ (by omega)
  clear hc ho hs
  unfold cbV at *
  go_enter Tryd.func10, Tryd.ntmps10
  go_wp2_with fail
  refine (C.out _ (grown_alloc w _)).mono ?_
  rintro e w1 ⟨rfl, hg1⟩
  have G1 := hide (grown_trans (grown_alloc w _) hg1)
  clear hg1
  go_wp2
  go_quiet ((go_at_call 22; exact Calls.quiet_of_same (I.out _)))
  go_wp2
  go_ret2
  exact ⟨rfl, grown_trans G1.out (grown_drewN _ _ _)⟩

/-- What Parse tells. -/
def prsV (o : Option Nat) : Value := match o with | some s => .tuple #[.int .i64 (s : Int), .int .i64 0] | none => .tuple #[.int .i64 0, .int .i64 140]
set_option maxHeartbeats 1000000 in
theorem parse_bad (R W : Int) (ao : Option Addr) (n cap : Nat) (L : List Int) (l : List UInt8) (w : World) (hc : CbIn w ao n cap L) (hz : ¬ Ok R W L) :
    Calls Tryd.prog 12 #[cbV R W (.slice ao n cap), str l] w fun e w' => e = .returned (.tuple #[.int .i64 0, .int .i64 2]) ∧ w.grownBy w' none := by
  have C := hide (fun w' (hg : w.grownBy w' none) => check_any R W ao n cap L w' (hc.grown hg))
  rw [code_no hz] at C
  clear hc hz
  unfold cbV str at *
  go_enter Tryd.func12, Tryd.ntmps12
  go_wp2_with fail
  refine (C.out _ (grown_alloc w _)).mono ?_
  rintro e w1 ⟨rfl, hg1⟩
  have G1 := hide (grown_trans (grown_alloc w _) hg1)
  clear hg1
  go_wp2
  go_ret2
  exact ⟨rfl, G1.out⟩
set_option maxHeartbeats 1000000 in
theorem parse_nil (R W : Int) (ao : Option Addr) (n cap : Nat) (L : List Int) (w : World) (hc : CbIn w ao n cap L) (hz : Ok R W L) :
    Calls Tryd.prog 12 #[cbV R W (.slice ao n cap), str []] w fun e w' => e = .returned (.tuple #[.int .i64 0, .int .i64 140]) ∧ w.grownBy w' none := by
  have C := hide (fun w' (hg : w.grownBy w' none) => check_any R W ao n cap L w' (hc.grown hg))
  rw [code_ok hz] at C
  clear hc hz
  unfold cbV str at *
  go_enter Tryd.func12, Tryd.ntmps12
  go_wp2_with fail
  refine (C.out _ (grown_alloc w _)).mono ?_
  rintro e w1 ⟨rfl, hg1⟩
  have G1 := hide (grown_trans (grown_alloc w _) hg1)
  clear hg1
  go_wp2
  go_ret2
  exact ⟨rfl, G1.out⟩
theorem take_str (d : List UInt8) (x : UInt8) : (⟨(d ++ [x]).toArray⟩ : ByteArray).extract 0 d.length = ⟨d.toArray⟩ := by
  cases h : (⟨(d ++ [x]).toArray⟩ : ByteArray).extract 0 d.length with
  | mk z =>
    have := congrArg ByteArray.data h
    simp at this
    rw [← this]
theorem slice_front (d : List UInt8) (x : UInt8) (w : World) : (Instr.slice 9 (str (d ++ [x])) none (some (.int .i64 (d.length : Int))) none).run Tryd.prog w = .ok (str d) w := by
  have h2 : d.length ≤ d.length + 1 := by omega
  simp [Instr.slice, run_underlying Tryd.underlying9, Instr.sliceBounds, Instr.sliceBound, asIntOf, str, size_str]
  exact take_str d x
theorem index_last (d : List UInt8) (x : UInt8) (w : World) : (Instr.index 9 (.string ⟨(d ++ [x]).toArray⟩) (.int .i64 (d.length : Int))).run Tryd.prog w = .ok (.int .u8 (x.toNat : Int)) w := by
  have hz := size_str (d ++ [x])
  rw [List.length_append, List.length_singleton] at hz
  have h1 : (d.length : Int) < ((⟨(d ++ [x]).toArray⟩ : ByteArray).size : Int) := by rw [hz]; omega
  rw [run_index_string w 9 ⟨(d ++ [x]).toArray⟩ .i64 _ Tryd.underlying9, dif_pos ⟨by omega, h1⟩]
  have h2 : (d ++ [x]).toArray[d.length]? = some x := by simp
  have h3 := Array.getElem?_eq_some_iff.1 h2
  obtain ⟨h4, h5⟩ := h3
  congr 3
  exact congrArg UInt8.toNat h5
def rI (o : Option Nat) : Int := match o with | some r => (r : Int) | none => 0
def cI (o : Option Nat) : Int := match o with | some r => (r : Int) | none => -1
theorem rowV_eq (o : Option Nat) : rowV o = .tuple #[.int .i64 (rI o), .bool o.isSome] := by cases o <;> rfl
theorem colV_eq (o : Option Nat) : colV o = .tuple #[.int .i64 (cI o), .bool o.isSome] := by cases o <;> rfl
set_option maxHeartbeats 1000000 in
theorem parse_core (R W : Nat) (ao : Option Addr) (n cap : Nat) (sb sd : ByteArray) (m xn : Nat) (ri ci : Int) (rb cb : Bool) (V : Value) (w : World)
    (hsub : (sb.size : Int) - 1 = (m : Int)) (hms : m ≤ 281474976710656) (hne : (sb.toList == []) = false)
    (hsl : ∀ w, (Instr.slice 9 (.string sb) none (some (.int .i64 (m : Int))) none).run Tryd.prog w = .ok (.string sd) w)
    (hix : ∀ w, (Instr.index 9 (.string sb) (.int .i64 (m : Int))).run Tryd.prog w = .ok (.int .u8 (xn : Int)) w)
    (C : ∀ w', w.grownBy w' none → Calls Tryd.prog 15 #[cbV R W (.slice ao n cap)] w' fun e w'' => e = .returned (.int .i64 0) ∧ w'.grownBy w'' none)
    (A : ∀ w', w.grownBy w' none → Calls Tryd.prog 23 #[cbV R W (.slice ao n cap), .string sd] w' fun e w'' => e = .returned (.tuple #[.int .i64 ri, .bool rb]) ∧ w'.grownBy w'' none)
    (B : ∀ w', Calls Tryd.prog 24 #[cbV R W (.slice ao n cap), .int .u8 (xn : Int)] w' fun e w'' => e = .returned (.tuple #[.int .i64 ci, .bool cb]) ∧ w'.grownBy w'' none)
    (pm : Int) (hpm : IntKind.i64.wrap (ri * (W : Int)) = pm) (h0 : 0 ≤ pm) (h1 : pm ≤ 100000) (h2 : -1 ≤ ci) (h3 : ci ≤ 100)
    (hno : rb = false ∨ cb = false → V = .tuple #[.int .i64 0, .int .i64 140]) (hyes : rb = true → cb = true → V = .tuple #[.int .i64 (pm + ci), .int .i64 0]) :
    Calls Tryd.prog 12 #[cbV R W (.slice ao n cap), .string sb] w fun e w' => e = .returned V ∧ w.grownBy w' none := by
  have C := hide C
  have A := hide A
  have B := hide B
  have HN := hide (And.intro hno hyes)
  clear hno hyes
  unfold cbV at *
  go_enter Tryd.func12, Tryd.ntmps12
  go_wp2_with fail
  refine (C.out _ (grown_alloc w _)).mono ?_
  rintro e w1 ⟨rfl, hg1⟩
  have hb1 := box_kept hg1
  have G1 := hide (And.intro (grown_trans (grown_alloc w _) hg1) hb1)
  obtain ⟨c0, c1, c2⟩ := box3 hb1
  clear hg1 hb1
  go_wp2
  go_region_held3 (fun w' => w'.cell? ⟨w.heap.size, 0, none⟩ = some (.int .i64 (R : Int)) ∧ w'.cell? ⟨w.heap.size, 1, none⟩ = some (.int .i64 (W : Int)) ∧ w'.cell? ⟨w.heap.size, 2, none⟩ = some (.slice ao n cap)) (first | exact ⟨c0, c1, c2⟩ | assumption | go_keep) ((go_at_call 23; refine (A.out _ (grown_trans G1.out.1 (first_grown _ _ _))).mono ?_; rintro e w2 ⟨rfl, hw2⟩; have hk := And.intro (hw2.cell c0 (by simp)) (And.intro (hw2.cell c1 (by simp)) (hw2.cell c2 (by simp))); have G2 := hide hw2; clear hw2))
  clear c0 c1 c2
  obtain ⟨c0, c1, c2⟩ := hk
  go_wp2
  go_region_held3 (fun w' => w'.cell? ⟨w.heap.size, 0, none⟩ = some (.int .i64 (R : Int)) ∧ w'.cell? ⟨w.heap.size, 1, none⟩ = some (.int .i64 (W : Int)) ∧ w'.cell? ⟨w.heap.size, 2, none⟩ = some (.slice ao n cap)) (first | exact ⟨c0, c1, c2⟩ | assumption | go_keep) ((go_at_call 24; refine (B.out _).mono ?_; rintro e w3 ⟨rfl, hw3⟩; have hk := And.intro (hw3.cell c0 (by simp)) (And.intro (hw3.cell c1 (by simp)) (hw3.cell c2 (by simp))); have G3 := hide hw3; clear hw3))
  clear c0 c1 c2
  obtain ⟨c0, c1, c2⟩ := hk
  have GG := hide (grown_trans (grown_trans (grown_trans (grown_trans G1.out.1 (first_grown _ _ _)) G2.out) (first_grown _ _ _)) G3.out)
  cases rb
  · have HV := hide (HN.out.1 (Or.inl rfl))
    clear HN
    go_wp2
    go_ret2
    exact ⟨by rw [HV.out]; rfl, GG.out⟩
  · cases cb
    · have HV := hide (HN.out.1 (Or.inr rfl))
      clear HN
      go_wp2
      go_ret2
      exact ⟨by rw [HV.out]; rfl, GG.out⟩
    · have HV := hide (HN.out.2 rfl rfl)
      clear HN
      go_wp2
      go_ret2
      exact ⟨by rw [HV.out]; rfl, GG.out⟩
theorem parse_ok (R W : Nat) (ao : Option Addr) (n cap : Nat) (L : List Int) (d : List UInt8) (x : UInt8) (hl : d.length ≤ 281474976710656) (w : World) (hE : Er w) (hc : CbIn w ao n cap L) (ho : Ok R W L) :
    Calls Tryd.prog 12 #[cbV R W (.slice ao n cap), str (d ++ [x])] w fun e w' => e = .returned (prsV (prs R W (d ++ [x]))) ∧ w.grownBy w' none := by
  have C := fun w' (hg : w.grownBy w' none) => check_any R W ao n cap L w' (hc.grown hg)
  rw [code_ok ho] at C
  have hW := ho.2.2.1
  have h7 := ho.2.2.2.1
  have hR := ho.2.1
  have A := fun w' (hg : w.grownBy w' none) => rowOf_any R W (.slice ao n cap) d hl (by omega) w' (hE.grown hg)
  have B := fun w' => columnOf_any R W (.slice ao n cap) x (by omega) w'
  rw [rowV_eq] at A
  rw [colV_eq] at B
  have hri : ∃ k : Nat, rI (rowN R d) = (k : Int) ∧ k ≤ 64 := by
    cases hr : rowN R d with
    | none => exact ⟨0, rfl, by omega⟩
    | some r => exact ⟨r, rfl, by have := (rowN_of hr).1; omega⟩
  have hci : -1 ≤ cI (colN W x) ∧ cI (colN W x) ≤ 100 := by
    cases hr : colN W x with
    | none => exact ⟨by decide, by decide⟩
    | some r => have := (colN_of hr).1; unfold cI; simp only; omega
  obtain ⟨k, hk, hk2⟩ := hri
  have hp : 0 ≤ rI (rowN R d) * (W : Int) ∧ rI (rowN R d) * (W : Int) ≤ 100000 := by
    rw [hk]
    have h5 : (k : Int) * (W : Int) ≤ 64 * 16 := Int.mul_le_mul (by omega) h7 (by omega) (by omega)
    exact ⟨Int.mul_nonneg (by omega) (by omega), by omega⟩
  have hsz := size_str (d ++ [x])
  rw [List.length_append, List.length_singleton] at hsz
  refine parse_core R W ao n cap ⟨(d ++ [x]).toArray⟩ ⟨d.toArray⟩ d.length x.toNat (rI (rowN R d)) (cI (colN W x)) (rowN R d).isSome (colN W x).isSome _ w (by rw [hsz]; omega) hl
    (by rw [ByteArray.toList_eq]; simp) (slice_front d x) (index_last d x) C A B _ (IntWalk.i64_in _ (by omega)) hp.1 hp.2 hci.1 hci.2 ?_ ?_
  · intro h
    rw [prs_parts (by omega) (by omega) (by omega) d x]
    cases hr : rowN R d with
    | none => rfl
    | some r =>
      cases hc : colN W x with
      | none => rfl
      | some c => rw [hr, hc] at h; simp at h
  · intro h4 h5
    rw [prs_parts (by omega) (by omega) (by omega) d x]
    cases hr : rowN R d with
    | none => rw [hr] at h4; cases h4
    | some r =>
      cases hc : colN W x with
      | none => rw [hc] at h5; cases h5
      | some c => simp only [prsV, rI, cI, Int.natCast_add, Int.natCast_mul]
end Go.Proofs.YtomoclicbjkpoabDoor
