/- Texts joined: JpAd. -/
import Derived.Test.YtinkkocleognbaaGreatDoorJuAs
import Derived.Deep.QuietTactic
import Derived.BigQuiet
import Derived.Test.YtinkkocleognbaaGreatDoorJuAd
import Derived.Test.YtinkkocleognbaaGreatDoorJuAr
/- Texts joined: OcLent, OcOver, RkRc. -/
/- The contracts of the statements' own helpers for bytes that are lent: markByte, LentBytes, KeptBytes, OverBytes. -/
namespace Go.Proofs.YtinkkocleognbaaGreatDoor.Oc
open Go.RowKit
attribute [local go_sem ↓] Go.wp_at_zero Go.wp_at_succ

/-- The mark of a place. -/
def markB (k i : Int) : Int := IntKind.u64.wrap ((1000003 * (k + 7) + i) * 11400714819323198485) / 72057594037927936 % 256
set_option maxHeartbeats 400000 in
theorem mark_any (k i : Int) (w : World) (_hk0 : 0 ≤ k) (_hk : k ≤ 1000000) (_hi0 : 0 ≤ i) (_hi : i ≤ 1000000000000000000) :
    Calls Tryz.prog 120 #[.int .i64 k, .int .i64 i] w fun e w' => e = .returned (.int .u8 (markB k i)) ∧ w' = w := by
  go_enter Tryz.func120, Tryz.ntmps120
  go_wp2
  go_ret
  exact ⟨rfl, rfl⟩

/-- The first j marks. -/
def marks (k : Int) (j : Nat) : List Int := (List.range j).map fun (i : Nat) => markB k (i : Int)
theorem marks_succ (k : Int) (j : Nat) : marks k (j + 1) = marks k j ++ [markB k (j : Int)] := by simp [marks, List.range_succ]
theorem marks_get (k : Int) (j i : Nat) (h : i < j) : (marks k j)[i]? = some (markB k (i : Int)) := by simp [marks, h]

theorem slice_to (ao : Option Addr) (len cap n : Nat) (h : n ≤ cap) (w : World) : (Instr.slice 39 (.slice ao len cap) none (some (.int .i64 (n : Int))) none).run Tryz.prog w = .ok (.slice ao n cap) w := by
  simp [Instr.slice, run_underlying Tryz.underlying39, Instr.sliceBounds, Instr.sliceBound, asIntOf, h]
  intro _; cases ao <;> simp [Addr.add]
theorem make_cap (n : Nat) (h : n ≤ 140737488355328) (w : World) : (Instr.makeSlice 39 (.int .i64 0) (.int .i64 ((n : Int) + 12))).run Tryz.prog w = .ok (.slice (some ⟨w.heap.size, 0, none⟩) 0 (n + 12)) (w.alloc (.cells (zrow (n + 12)).toArray 5)) := by
  obtain ⟨i0, hi, hz0, hz1, hz2⟩ := info_parts Tryz.info5
  rw [run_make (P := Tryz.prog) (w := w) 39 5 i0 (.int .u8 0) Tryz.underlying39 hi hz0 .i64 .i64 0 ((n : Int) + 12) (by omega) (by omega) (by rw [hz2]; omega) (by omega), hz1]
  have e : ((n : Int) + 12).toNat = n + 12 := by omega
  rw [e, Nat.mul_one]
  show Result.ok _ (w.alloc (.cells (madeCells #[.int .u8 0] (n + 12)) 5)) = _
  rw [made_zrow]
  rfl

/-- Bytes that were lent: they, and twelve marks behind their end. -/
def LentAt (w : World) (B : Nat) (v : Value) (xs : List Int) : Prop :=
  ∃ g cap, v = .slice (some ⟨g, 0, none⟩) xs.length cap ∧ w.ownsRow B 5 1 (.slice (some ⟨g, 0, none⟩) (xs.length + 12) cap) (xs.length + 12) ((xs ++ marks 1 12).map (Value.int .u8))

set_option maxHeartbeats 1000000 in
theorem lent_any (ao : Option Addr) (n cap : Nat) (xs : List Int) (w : World) (hn : xs.length = n) (hat : At w ao xs) (hnil : ao = none → n = 0 ∧ cap = 0) (hb : n ≤ 140737488355000) :
    Calls Tryz.prog 84 #[.slice ao n cap] w fun e w' => ∃ v, e = .returned v ∧ LentAt w' w.heap.size v xs ∧ w.grownBy w' none := by
  have Hn := hide hn
  have hmk := make_cap n (by omega)
  clear hn
  go_enter Tryz.func84, Tryz.ntmps84
  go_wp2_with (at_builtin; refine wpList_append_at rfl (.tmp 9) (.tmp 10) rfl w.heap.size (.slice (some ⟨w.heap.size, 0, none⟩) 0 (n + 12)) 0 [] rfl ?_ ao n cap xs rfl Hn.out ?_ hnil (by omega) (by simp) ?_)
  · exact World.ownsRow_made w _ (n + 12) (Nat.le_refl _) (by unfold maxLen; omega) (by simp [zrow])
  · exact hat.kept (World.grownBy_alloc w _ none) (by simp)
  · intro v1 w1 hown hg
    have G1 : Hid (w.grownBy w1 none) := grown_then (World.grownBy_alloc w _ none) hg (fun k e => by cases e; exact Or.inl (Nat.le_refl _))
    have HO := hide hown
    clear hown hg hmk
    go_wp2
    go_loopg [3, 4] 12 (fun k v i wr => ∃ j : Nat, k + j = 12 ∧ i = .int .i64 j ∧ wr.ownsRow w.heap.size 5 1 v (n + j) ((xs ++ marks 1 j).map (Value.int .u8)) ∧ w.grownBy wr none)
    case atStart => exact ⟨0, rfl, rfl, by simpa [marks] using HO.out, G1.out⟩
    case round =>
      obtain ⟨j, hkj, rfl, hown, hg⟩ := hrel
      by_cases hk : 0 < gk
      · have HO2 := hide (And.intro hown hg)
        clear hown hg
        go_wp2_with (first | (go_at_call 120; refine (mark_any 1 j _ (by omega) (by omega) (by omega) (by omega)).mono ?_; rintro e w' ⟨rfl, rfl⟩) | (at_builtin; refine wpList_append_at rfl (.tmp 16) (.tmp 19) rfl w.heap.size _ (n + j) ((xs ++ marks 1 j).map (Value.int .u8)) rfl (HO2.out.1.alloc _) (some ⟨_, 0, none⟩) 1 1 [markB 1 j] rfl rfl ?_ (fun e => by cases e) (by omega) ?_ ?_))
        · exact at_new _ [markB 1 j] _ rfl
        · have := HO2.out.2.size; simp; omega
        · intro v' w' hown' hg'
          go_wp2
          go_roundg (gk - 1)
          case measure => omega
          case rel =>
            refine ⟨j + 1, by omega, by go_num, ?_, ?_⟩
            · rw [marks_succ]; simpa [Nat.add_assoc] using hown'
            · refine grown_then (grown_trans HO2.out.2 (World.grownBy_alloc _ _ none)) hg' (fun k e => Or.inl (HO2.out.1.lt k e).1)
      · have hj : j = 12 := by omega
        subst hj
        obtain ⟨ao', cap', rfl, hl, hnc, hcm, hat', hnil', h5⟩ := own_at hown
        obtain ⟨a', rfl⟩ : ∃ a', ao' = some a' := by
          cases ao' with
          | none => have := (hnil' rfl).1; omega
          | some a' => exact ⟨a', rfl⟩
        have hst := slice_to (some a') (n + 12) cap' n (by omega)
        have HO2 := hide (And.intro hown hg)
        clear hown hg hl hcm hat' hnil' h5
        go_wp2
        go_ret
        obtain ⟨hown, hg⟩ := HO2.out
        rcases hown.2 with ⟨hx, _⟩ | ⟨g, cap2, cur, hv, hr⟩
        · cases hx
        · cases hv
          refine ⟨_, rfl, ⟨g, cap', by rw [Hn.out]; rfl, ?_⟩, hg⟩
          rw [Hn.out]; exact hown
theorem grown_drewN (w : World) (n : Nat) (row : Option Nat) : w.grownBy (w.drewN n) row := ⟨rfl, rfl, rfl, Nat.le_refl _, fun _ _ _ => rfl⟩
/-- What is lent, as bytes that lie somewhere: they and the marks. -/
theorem LentAt.all {w : World} {B : Nat} {v : Value} {xs : List Int} (h : LentAt w B v xs) : ∃ g cap, v = .slice (some ⟨g, 0, none⟩) xs.length cap ∧ xs.length + 12 ≤ cap ∧ cap ≤ maxLen ∧ B ≤ g ∧ g < w.heap.size ∧
    At w (some ⟨g, 0, none⟩) (xs ++ marks 1 12) ∧ ∃ cur, w.heap[g]? = some (.cells cur 5 (0, 0)) ∧ cur.size = cap := by
  obtain ⟨g, cap, rfl, hown⟩ := h
  obtain ⟨ao', cap', hv, hl, hnc, hcm, hat', hnil', h5⟩ := own_at hown
  cases hv
  obtain ⟨hb, hlt, _⟩ := h5 _ rfl
  rcases hown.2 with ⟨hx, _⟩ | ⟨g2, cap2, cur, hv, _, hc, _, _, hs, _⟩
  · cases hx
  · cases hv
    exact ⟨g, cap, rfl, hnc, hcm, hb, hlt, hat', cur, hc, by simpa using hs⟩
theorem LentAt.at {w : World} {B : Nat} {v : Value} {xs : List Int} (h : LentAt w B v xs) : ∃ g cap, v = .slice (some ⟨g, 0, none⟩) xs.length cap ∧ xs.length ≤ cap ∧ cap ≤ maxLen ∧ B ≤ g ∧ g < w.heap.size ∧ At w (some ⟨g, 0, none⟩) xs ∧ ∃ cur, w.heap[g]? = some (.cells cur 5 (0, 0)) := by
  obtain ⟨g, cap, hv, h1, h2, h3, h4, h5, cur, hc, _⟩ := h.all
  refine ⟨g, cap, hv, by omega, h2, h3, h4, ?_, cur, hc⟩
  intro j u hu
  exact h5 j u (by rw [List.getElem?_append_left (List.getElem?_eq_some_iff.1 hu).1, hu])

set_option maxHeartbeats 1000000 in
theorem kept_any (g cap : Nat) (bo : Option Addr) (n d : Nat) (xs : List Int) (w : World) (hn : xs.length = n) (hc1 : n + 12 ≤ cap) (_hc2 : cap ≤ maxLen) (ha : At w (some ⟨g, 0, none⟩) (xs ++ marks 1 12)) (hb : At w bo xs) (hm : n ≤ 140737488355328) :
    Calls Tryz.prog 87 #[.slice (some ⟨g, 0, none⟩) n cap, .slice bo n d] w fun e w' => e = .returned (.bool true) ∧ w.grownBy w' none := by
  have HA := hide (And.intro hn (And.intro ha hb))
  unfold maxLen at _hc2
  have hst := slice_to (some ⟨g, 0, none⟩) n cap (n + 12) hc1
  have hst2 : ∀ w', (Instr.slice 39 (.slice (some ⟨g, 0, none⟩) n cap) none (some (.int .i64 ((n : Int) + 12))) none).run Tryz.prog w' = .ok (.slice (some ⟨g, 0, none⟩) (n + 12) cap) w' := hst
  clear hn ha hb hst
  go_enter Tryz.func87, Tryz.ntmps87
  go_wp2
  go_loopg [6] (n + 12) (fun k i wr => ∃ j : Nat, k + j = n + 12 ∧ i = .int .i64 j ∧ w.grownBy wr none)
  case atStart => exact ⟨0, by omega, rfl, grown_refl _ _⟩
  case round =>
    obtain ⟨j, hkj, rfl, hg⟩ := hrel
    by_cases hk : 0 < gk
    · obtain ⟨hn, ha, hb⟩ := HA.out
      have hj0 : (0 : Int) ≤ (j : Int) := by omega
      have hj1 : (j : Int) < ((n + 12 : Nat) : Int) := by omega
      by_cases hj : j < n
      · have hjx : j < xs.length := by omega
        obtain ⟨a, e1, hca⟩ := ha j xs[j] (by rw [List.getElem?_append_left hjx]; simp [hjx])
        cases e1
        obtain ⟨b, rfl, hcb⟩ := hb j xs[j] (by simp [hjx])
        have hca' := hg.cell hca (by simp)
        have hcb' := hg.cell hcb (by simp)
        rw [Addr.add_lit, Nat.zero_add] at hca'
        generalize xs[j] = x at *
        have hjn : (j : Int) < (n : Int) := by omega
        have hd1 : decide (n ≤ j) = false := by simp; omega
        clear hn ha hb hca hcb hst2 hjx
        go_wp2
        go_quiet (fail)
        go_wp2
        go_roundg (gk - 1)
        case measure => omega
        case rel => exact ⟨j + 1, by omega, by go_num, grown_trans hg (grown_drewN _ _ _)⟩
      · obtain ⟨i, hji⟩ : ∃ i, j = n + i := ⟨j - n, by omega⟩
        have hi : i < 12 := by omega
        obtain ⟨a, e1, hca⟩ := ha j (markB 1 i) (by rw [hji, List.getElem?_append_right (by omega), hn, Nat.add_sub_cancel_left, marks_get 1 12 i hi])
        cases e1
        have hca' := hg.cell hca (by simp)
        rw [Addr.add_lit, Nat.zero_add] at hca'
        have hd1 : decide (j < n) = false := by simp; omega
        have hd3 : decide (n ≤ j) = true := by simp; omega
        have hmk : ∀ w, Calls Tryz.prog 120 #[.int .i64 1, .int .i64 (i : Int)] w fun e w' => e = .returned (.int .u8 (markB 1 i)) ∧ w' = w := fun w => mark_any 1 i w (by omega) (by omega) (by omega) (by omega)
        have Hmk := hide hmk
        have hsub : (j : Int) - (n : Int) = (i : Int) := by omega
        have HJ := hide hji
        have hwi : IntKind.i64.wrap (i : Int) = (i : Int) := by rw [IntKind.wrap_i64]; omega
        generalize markB 1 (i : Int) = x at *
        clear hn ha hb hca hst2 hmk hji
        go_wp2
        go_quiet ((go_at_call 120; exact Calls.quiet_of_same (Hmk.out _)))
        go_wp2
        go_roundg (gk - 1)
        case measure => omega
        case rel => exact ⟨j + 1, by omega, by go_num, grown_trans hg (grown_drewN _ _ _)⟩
    · have hj : j = n + 12 := by omega
      subst hj
      go_wp2
      go_ret
      exact ⟨rfl, hg⟩
end Go.Proofs.YtinkkocleognbaaGreatDoor.Oc
/- The contract of OverBytes; a Reader's bytes that lie behind a bound. -/
namespace Go.Proofs.YtinkkocleognbaaGreatDoor.Oc
open Go.RowKit

set_option maxHeartbeats 1000000 in
theorem over_any (g cap n : Nat) (w : World) (hb : ∃ cur, w.heap[g]? = some (.cells cur 5 (0, 0)) ∧ cur.size = cap) (hc1 : n + 12 ≤ cap) (_hc2 : cap ≤ maxLen) (hm : n ≤ 140737488355328) :
    Calls Tryz.prog 89 #[.slice (some ⟨g, 0, none⟩) n cap] w fun e w' => e = .returned (.tuple #[]) ∧ w.grownBy w' (some g) := by
  unfold maxLen at _hc2
  have hst2 : ∀ w', (Instr.slice 39 (.slice (some ⟨g, 0, none⟩) n cap) none (some (.int .i64 ((n : Int) + 12))) none).run Tryz.prog w' = .ok (.slice (some ⟨g, 0, none⟩) (n + 12) cap) w' := slice_to (some ⟨g, 0, none⟩) n cap (n + 12) hc1
  have HB := hide hb
  clear hb
  go_enter Tryz.func89, Tryz.ntmps89
  go_wp2
  go_loopg [3] (n + 12) (fun k i wr => ∃ j : Nat, k + j = n + 12 ∧ i = .int .i64 j ∧ (∃ cur, wr.heap[g]? = some (.cells cur 5 (0, 0)) ∧ cur.size = cap) ∧ w.grownBy wr (some g))
  case atStart => exact ⟨0, by omega, rfl, HB.out, grown_refl _ _⟩
  case round =>
    obtain ⟨j, hkj, rfl, ⟨cur, hb, hs⟩, hg⟩ := hrel
    by_cases hk : 0 < gk
    · have hj1 : (j : Int) < ((n + 12 : Nat) : Int) := by omega
      have hjs : j < cur.size := by omega
      have hc : wr.cell? ⟨g, j, none⟩ = some cur[j] := by rw [cell_of_row wr g j cur 5 (0, 0) hb]; simp [hjs]
      have hf : wr.frozen? ⟨g, j, none⟩ = false := free_row hb _
      have Hb := hide (And.intro hb hs)
      obtain ⟨y, hy⟩ : ∃ y, y = cur[j] := ⟨_, rfl⟩
      rw [← hy] at hc
      clear hb hs hy hst2
      go_wp2_with (first | (go_at_call 120; refine (mark_any 2 j _ (by omega) (by omega) (by omega) (by omega)).mono ?_; rintro e w' ⟨rfl, rfl⟩) | go_in)
      go_roundg (gk - 1)
      case measure => omega
      case rel =>
        refine ⟨j + 1, by omega, by go_num, ⟨cur.setIfInBounds j (.int .u8 (markB 2 j)), ?_, by simp [Hb.out.2]⟩, grown_trans hg (grown_setCell _ g j _)⟩
        have h1 : _ = some (Obj.cells cur.toList.toArray 5 (0, 0)) := Hb.out.1
        have := row_setCell h1 j (.int .u8 (markB 2 j))
        rw [this]
        simp only [Option.some.injEq, Obj.cells.injEq, and_true]
        exact Array.ext' (by simp)
    · have hj : j = n + 12 := by omega
      subst hj
      clear hb hs
      go_wp2
      go_end0
      exact ⟨rfl, hg⟩

/-- A Reader whose bytes lie in blocks from lo on. -/
def RdLo (w : World) (b lo : Nat) : Prop := ∀ ao n cap a, w.cell? ⟨b, 0, none⟩ = some (.slice ao n cap) → ao = some a → lo ≤ a.block
theorem RdLo.kept {w w' : World} {b lo : Nat} {xs : List Int} {e : Int} {row : Option Nat} (h : RdLo w b lo) (hR : RdAt w b xs e) (hg : w.grownBy w' row) (hne : row ≠ some b) : RdLo w' b lo := by
  intro ao n cap a hc
  rw [World.cell?_of_block (w := w) (a := ⟨b, 0, none⟩) (hg.block b hR.lt (fun e => hne e.symm))] at hc
  exact h ao n cap a hc

end Go.Proofs.YtinkkocleognbaaGreatDoor.Oc
/- records: write, Put. -/
namespace Go.Proofs.YtinkkocleognbaaGreatDoor.Rk
open Oc
open Go.RowKit
attribute [local go_sem ↓] Go.wp_at_zero Go.wp_at_succ
theorem sizeIf_any (has : Bool) (n : Int) (w : World) : Calls Tryz.prog 129 #[.bool has, .int .i64 n] w fun e w' => e = .returned (.int .i64 (if has = true then n else 0)) ∧ w' = w := by
  cases has with
  | false =>
    rw [if_neg (by decide)]
    go_enter Tryz.func129, Tryz.ntmps129
    go_wp2
    go_ret
    exact ⟨rfl, rfl⟩
  | true =>
    rw [if_pos rfl]
    go_enter Tryz.func129, Tryz.ntmps129
    go_wp2
    go_ret
    exact ⟨rfl, rfl⟩
set_option maxHeartbeats 2000000 in
theorem size_1 (w : World) (hT : Tab w) : Calls Tryz.prog 98 #[.int .i64 1] w fun e w' => e = .returned (.int .i64 15) ∧ w.grownBy w' none := by
  obtain ⟨t0, t1, t2, t3⟩ := tab1 hT
  have bb := heap_alloc_new w (.cells [Value.bool true, .bool true, .bool true, .bool false].toArray 138)
  obtain ⟨f0, f1, f2, f3⟩ := box4 bb
  have HG := hide (World.grownBy_alloc w (.cells [Value.bool true, .bool true, .bool true, .bool false].toArray 138) none)
  have q : Calls Tryz.prog 91 #[.int .i64 1] w fun e w' => e = .returned (.bool true) ∧ w' = w := isKind_any 1 w
  have sT : ∀ n w, Calls Tryz.prog 129 #[.bool true, .int .i64 n] w fun e w' => e = .returned (.int .i64 n) ∧ w' = w := fun n w => sizeIf_any true n w
  have sF : ∀ n w, Calls Tryz.prog 129 #[.bool false, .int .i64 n] w fun e w' => e = .returned (.int .i64 0) ∧ w' = w := fun n w => sizeIf_any false n w
  clear bb hT
  go_enter Tryz.func98, Tryz.ntmps98
  go_wp2_with fail
  refine q.mono ?_
  rintro e w3 ⟨rfl, hw⟩
  obtain rfl := hw.symm
  clear hw q
  go_wp2_with fail
  clear t0 t1 t2 t3
  generalize w.alloc (.cells #[.bool true, .bool true, .bool true, .bool false] 138) = w2 at *
  go_quiet (first | (go_at_call_of 129 (Value.bool true); exact Calls.quiet_of_same (sT _ _)) | (go_at_call_of 129 (Value.bool false); exact Calls.quiet_of_same (sF _ _)))
  go_wp2
  go_ret
  exact ⟨rfl, grown_trans HG.out (grown_drewN _ _ none)⟩
set_option maxHeartbeats 2000000 in
theorem size_2 (w : World) (hT : Tab w) : Calls Tryz.prog 98 #[.int .i64 2] w fun e w' => e = .returned (.int .i64 5) ∧ w.grownBy w' none := by
  obtain ⟨t0, t1, t2, t3⟩ := tab2 hT
  have bb := heap_alloc_new w (.cells [Value.bool true, .bool false, .bool false, .bool false].toArray 138)
  obtain ⟨f0, f1, f2, f3⟩ := box4 bb
  have HG := hide (World.grownBy_alloc w (.cells [Value.bool true, .bool false, .bool false, .bool false].toArray 138) none)
  have q : Calls Tryz.prog 91 #[.int .i64 2] w fun e w' => e = .returned (.bool true) ∧ w' = w := isKind_any 2 w
  have sT : ∀ n w, Calls Tryz.prog 129 #[.bool true, .int .i64 n] w fun e w' => e = .returned (.int .i64 n) ∧ w' = w := fun n w => sizeIf_any true n w
  have sF : ∀ n w, Calls Tryz.prog 129 #[.bool false, .int .i64 n] w fun e w' => e = .returned (.int .i64 0) ∧ w' = w := fun n w => sizeIf_any false n w
  clear bb hT
  go_enter Tryz.func98, Tryz.ntmps98
  go_wp2_with fail
  refine q.mono ?_
  rintro e w3 ⟨rfl, hw⟩
  obtain rfl := hw.symm
  clear hw q
  go_wp2_with fail
  clear t0 t1 t2 t3
  generalize w.alloc (.cells #[.bool true, .bool false, .bool false, .bool false] 138) = w2 at *
  go_quiet (first | (go_at_call_of 129 (Value.bool true); exact Calls.quiet_of_same (sT _ _)) | (go_at_call_of 129 (Value.bool false); exact Calls.quiet_of_same (sF _ _)))
  go_wp2
  go_ret
  exact ⟨rfl, grown_trans HG.out (grown_drewN _ _ none)⟩
set_option maxHeartbeats 2000000 in
theorem size_3 (w : World) (hT : Tab w) : Calls Tryz.prog 98 #[.int .i64 3] w fun e w' => e = .returned (.int .i64 5) ∧ w.grownBy w' none := by
  obtain ⟨t0, t1, t2, t3⟩ := tab3 hT
  have bb := heap_alloc_new w (.cells [Value.bool true, .bool false, .bool false, .bool false].toArray 138)
  obtain ⟨f0, f1, f2, f3⟩ := box4 bb
  have HG := hide (World.grownBy_alloc w (.cells [Value.bool true, .bool false, .bool false, .bool false].toArray 138) none)
  have q : Calls Tryz.prog 91 #[.int .i64 3] w fun e w' => e = .returned (.bool true) ∧ w' = w := isKind_any 3 w
  have sT : ∀ n w, Calls Tryz.prog 129 #[.bool true, .int .i64 n] w fun e w' => e = .returned (.int .i64 n) ∧ w' = w := fun n w => sizeIf_any true n w
  have sF : ∀ n w, Calls Tryz.prog 129 #[.bool false, .int .i64 n] w fun e w' => e = .returned (.int .i64 0) ∧ w' = w := fun n w => sizeIf_any false n w
  clear bb hT
  go_enter Tryz.func98, Tryz.ntmps98
  go_wp2_with fail
  refine q.mono ?_
  rintro e w3 ⟨rfl, hw⟩
  obtain rfl := hw.symm
  clear hw q
  go_wp2_with fail
  clear t0 t1 t2 t3
  generalize w.alloc (.cells #[.bool true, .bool false, .bool false, .bool false] 138) = w2 at *
  go_quiet (first | (go_at_call_of 129 (Value.bool true); exact Calls.quiet_of_same (sT _ _)) | (go_at_call_of 129 (Value.bool false); exact Calls.quiet_of_same (sF _ _)))
  go_wp2
  go_ret
  exact ⟨rfl, grown_trans HG.out (grown_drewN _ _ none)⟩
set_option maxHeartbeats 2000000 in
theorem size_4 (w : World) (hT : Tab w) : Calls Tryz.prog 98 #[.int .i64 4] w fun e w' => e = .returned (.int .i64 7) ∧ w.grownBy w' none := by
  obtain ⟨t0, t1, t2, t3⟩ := tab4 hT
  have bb := heap_alloc_new w (.cells [Value.bool true, .bool true, .bool false, .bool false].toArray 138)
  obtain ⟨f0, f1, f2, f3⟩ := box4 bb
  have HG := hide (World.grownBy_alloc w (.cells [Value.bool true, .bool true, .bool false, .bool false].toArray 138) none)
  have q : Calls Tryz.prog 91 #[.int .i64 4] w fun e w' => e = .returned (.bool true) ∧ w' = w := isKind_any 4 w
  have sT : ∀ n w, Calls Tryz.prog 129 #[.bool true, .int .i64 n] w fun e w' => e = .returned (.int .i64 n) ∧ w' = w := fun n w => sizeIf_any true n w
  have sF : ∀ n w, Calls Tryz.prog 129 #[.bool false, .int .i64 n] w fun e w' => e = .returned (.int .i64 0) ∧ w' = w := fun n w => sizeIf_any false n w
  clear bb hT
  go_enter Tryz.func98, Tryz.ntmps98
  go_wp2_with fail
  refine q.mono ?_
  rintro e w3 ⟨rfl, hw⟩
  obtain rfl := hw.symm
  clear hw q
  go_wp2_with fail
  clear t0 t1 t2 t3
  generalize w.alloc (.cells #[.bool true, .bool true, .bool false, .bool false] 138) = w2 at *
  go_quiet (first | (go_at_call_of 129 (Value.bool true); exact Calls.quiet_of_same (sT _ _)) | (go_at_call_of 129 (Value.bool false); exact Calls.quiet_of_same (sF _ _)))
  go_wp2
  go_ret
  exact ⟨rfl, grown_trans HG.out (grown_drewN _ _ none)⟩
set_option maxHeartbeats 2000000 in
theorem size_5 (w : World) (hT : Tab w) : Calls Tryz.prog 98 #[.int .i64 5] w fun e w' => e = .returned (.int .i64 9) ∧ w.grownBy w' none := by
  obtain ⟨t0, t1, t2, t3⟩ := tab5 hT
  have bb := heap_alloc_new w (.cells [Value.bool false, .bool false, .bool false, .bool true].toArray 138)
  obtain ⟨f0, f1, f2, f3⟩ := box4 bb
  have HG := hide (World.grownBy_alloc w (.cells [Value.bool false, .bool false, .bool false, .bool true].toArray 138) none)
  have q : Calls Tryz.prog 91 #[.int .i64 5] w fun e w' => e = .returned (.bool true) ∧ w' = w := isKind_any 5 w
  have sT : ∀ n w, Calls Tryz.prog 129 #[.bool true, .int .i64 n] w fun e w' => e = .returned (.int .i64 n) ∧ w' = w := fun n w => sizeIf_any true n w
  have sF : ∀ n w, Calls Tryz.prog 129 #[.bool false, .int .i64 n] w fun e w' => e = .returned (.int .i64 0) ∧ w' = w := fun n w => sizeIf_any false n w
  clear bb hT
  go_enter Tryz.func98, Tryz.ntmps98
  go_wp2_with fail
  refine q.mono ?_
  rintro e w3 ⟨rfl, hw⟩
  obtain rfl := hw.symm
  clear hw q
  go_wp2_with fail
  clear t0 t1 t2 t3
  generalize w.alloc (.cells #[.bool false, .bool false, .bool false, .bool true] 138) = w2 at *
  go_quiet (first | (go_at_call_of 129 (Value.bool true); exact Calls.quiet_of_same (sT _ _)) | (go_at_call_of 129 (Value.bool false); exact Calls.quiet_of_same (sF _ _)))
  go_wp2
  go_ret
  exact ⟨rfl, grown_trans HG.out (grown_drewN _ _ none)⟩
theorem size_any (k : Int) (w : World) (hT : Tab w) : Calls Tryz.prog 98 #[.int .i64 k] w fun e w' => e = .returned (.int .i64 (sz k : Nat)) ∧ w.grownBy w' none := by
  by_cases hk : 1 ≤ k ∧ k ≤ 5
  · have hk5 : k = 1 ∨ k = 2 ∨ k = 3 ∨ k = 4 ∨ k = 5 := by omega
    rcases hk5 with rfl | rfl | rfl | rfl | rfl
    · exact size_1 w hT
    · exact size_2 w hT
    · exact size_3 w hT
    · exact size_4 w hT
    · exact size_5 w hT
  · rw [sz_zero hk]
    have q := isKind_any k w
    rw [decide_eq_false hk] at q
    clear hk
    go_enter Tryz.func98, Tryz.ntmps98
    go_wp2_with fail
    refine q.mono ?_
    rintro e w3 ⟨rfl, hw⟩
    obtain rfl := hw.symm
    go_wp2
    go_ret
    exact ⟨rfl, grown_refl _ _⟩
/-- Inside write: the record's box, its kind's fields, the Writer. -/
structure WrS (w wr : World) (r : Rc) (a b c d : Bool) (bs : List Int) : Prop where
  box : wr.heap[w.heap.size]? = some (.cells (rcC r).toArray 47 (0, 0))
  fld : wr.heap[w.heap.size + 1]? = some (.cells [Value.bool a, .bool b, .bool c, .bool d].toArray 138 (0, 0))
  wra : WrAt wr (w.heap.size + 2) bs
  gr : w.grownBy wr none
theorem WrS.next {w wr wr' : World} {r : Rc} {a b c d : Bool} {bs bs' : List Int} (s : WrS w wr r a b c d bs) (hW : WrAt wr' (w.heap.size + 2) bs') (hg : wr.grownBy wr' (some (w.heap.size + 2))) : WrS w wr' r a b c d bs' :=
  ⟨(hg.block _ (row_lt s.box) (by simp)).trans s.box, (hg.block _ (row_lt s.fld) (by simp)).trans s.fld, hW, grown_then s.gr hg (fun j e => by cases e; exact Or.inl (by omega))⟩
theorem WrS.begin (w : World) (r : Rc) (a b c d : Bool) : WrS w (((w.alloc (.cells (rcC r).toArray 47)).alloc (.cells [Value.bool a, .bool b, .bool c, .bool d].toArray 138)).alloc (.cells Tryz.zeroCells143 143)) r a b c d [] := by
  obtain ⟨ba, bb, bg⟩ := two_boxes w (rcC r) [Value.bool a, .bool b, .bool c, .bool d] 47 138
  have hs : ((w.alloc (.cells (rcC r).toArray 47)).alloc (.cells [Value.bool a, .bool b, .bool c, .bool d].toArray 138)).heap.size = w.heap.size + 2 := by rw [World.size_alloc, World.size_alloc]
  have hw := wr_zero ((w.alloc (.cells (rcC r).toArray 47)).alloc (.cells [Value.bool a, .bool b, .bool c, .bool d].toArray 138))
  rw [hs] at hw
  have g3 := World.grownBy_alloc ((w.alloc (.cells (rcC r).toArray 47)).alloc (.cells [Value.bool a, .bool b, .bool c, .bool d].toArray 138)) (.cells Tryz.zeroCells143 143) none
  exact ⟨(g3.block _ (row_lt ba) (by simp)).trans ba, (g3.block _ (row_lt bb) (by simp)).trans bb, hw, grown_trans bg g3⟩

end Go.Proofs.YtinkkocleognbaaGreatDoor.Rk
