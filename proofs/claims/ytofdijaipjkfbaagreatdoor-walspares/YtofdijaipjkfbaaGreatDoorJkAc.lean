/- Texts joined: FRead3, FKit, FLent, FOver, FCPoly. -/
import Derived.Test.YtofdijaipjkfbaaGreatDoorJkAb
import Derived.Deep.QuietTactic
import Derived.BigQuiet
/- The contracts of a Reader's calls: numbers, Take, Left, Err, End; of Of. -/
namespace Go.Proofs.YtofdijaipjkfbaaGreatDoor.Fm
open Go.RowKit

theorem own_base {w : World} {base base' n : Nat} {v : Value} {xs : List Value} {e : TypeId} {size : Nat} (h : w.ownsRow base' e size v n xs) (hb : base ≤ base') : w.ownsRow base e size v n xs := by
  obtain ⟨h1, h2⟩ := h
  refine ⟨h1, ?_⟩
  rcases h2 with h2 | ⟨g, cap, cur, hv, hg, r⟩
  · exact Or.inl h2
  · exact Or.inr ⟨g, cap, cur, hv, Nat.le_trans hb hg, r⟩

theorem takeF_bytes {xs : List Int} (h : Byt xs) (e n : Int) : Byt (takeF xs e n).1 ∧ Byt (takeF xs e n).2.1 := by
  refine ⟨fun x hx => h x ((takeF_given xs e n).2 x hx), ?_⟩
  unfold takeF
  split
  · exact h
  · split
    · intro x hx; cases hx
    · split
      · intro x hx; cases hx
      · exact h.drop _

theorem takeF_value {xs : List Int} (h : Byt xs) (e : Int) (k : Nat) : 0 ≤ leV (takeF xs e k).1 ∧ leV (takeF xs e k).1 < 2 ^ (8 * k) := by
  have h1 := leV_bound _ (takeF_bytes h e k).1
  have h2 := (takeF_given xs e k).1
  refine ⟨h1.1, Int.lt_of_lt_of_le h1.2 ?_⟩
  have h3 : (takeF xs e k).1.length ≤ k := by omega
  have h4 : (2 : Nat) ^ (8 * (takeF xs e k).1.length) ≤ 2 ^ (8 * k) := Nat.pow_le_pow_right (by omega) (by omega)
  have h5 : ((2 ^ (8 * (takeF xs e k).1.length) : Nat) : Int) ≤ ((2 ^ (8 * k) : Nat) : Int) := Int.ofNat_le.2 h4
  simpa using h5

set_option maxHeartbeats 400000 in
theorem rtwo_any (b : Nat) (xs : List Int) (e : Int) (w : World) (hR : RdAt w b xs e) (hB : Byt xs) :
    Calls Tryz.prog 191 #[.pointer (some ⟨b, 0, none⟩)] w fun r w' => r = .returned (.int .u16 (leV (takeF xs e 2).1)) ∧ RdAt w' b (takeF xs e 2).2.1 (takeF xs e 2).2.2 ∧ w.grownBy w' (some b) := by
  have hv := takeF_value hB e 2
  have hr := rnum_any b xs e 2 2 w hR hB rfl (by omega)
  simp only [show (((2 : Nat) : Int)) = 2 from rfl] at hv
  have hv1 : leV (takeF xs e 2).1 < 65536 := hv.2
  have hv0 := hv.1
  clear hv
  generalize leV (takeF xs e 2).1 = V at *
  have HR := hide hr
  clear hr
  go_enter Tryz.func191, Tryz.ntmps191
  go_wp2_with fail
  refine HR.out.mono ?_
  rintro e1 w1 ⟨rfl, hR', hg⟩
  go_wp2
  go_ret
  exact ⟨rfl, hR', hg⟩
set_option maxHeartbeats 400000 in
theorem rfour_any (b : Nat) (xs : List Int) (e : Int) (w : World) (hR : RdAt w b xs e) (hB : Byt xs) :
    Calls Tryz.prog 194 #[.pointer (some ⟨b, 0, none⟩)] w fun r w' => r = .returned (.int .u32 (leV (takeF xs e 4).1)) ∧ RdAt w' b (takeF xs e 4).2.1 (takeF xs e 4).2.2 ∧ w.grownBy w' (some b) := by
  have hv := takeF_value hB e 4
  have hr := rnum_any b xs e 4 4 w hR hB rfl (by omega)
  simp only [show (((4 : Nat) : Int)) = 4 from rfl] at hv
  have hv1 : leV (takeF xs e 4).1 < 4294967296 := hv.2
  have hv0 := hv.1
  clear hv
  generalize leV (takeF xs e 4).1 = V at *
  have HR := hide hr
  clear hr
  go_enter Tryz.func194, Tryz.ntmps194
  go_wp2_with fail
  refine HR.out.mono ?_
  rintro e1 w1 ⟨rfl, hR', hg⟩
  go_wp2
  go_ret
  exact ⟨rfl, hR', hg⟩
set_option maxHeartbeats 400000 in
theorem reight_any (b : Nat) (xs : List Int) (e : Int) (w : World) (hR : RdAt w b xs e) (hB : Byt xs) :
    Calls Tryz.prog 192 #[.pointer (some ⟨b, 0, none⟩)] w fun r w' => r = .returned (.int .u64 (leV (takeF xs e 8).1)) ∧ RdAt w' b (takeF xs e 8).2.1 (takeF xs e 8).2.2 ∧ w.grownBy w' (some b) := by
  have hv := takeF_value hB e 8
  have hr := rnum_any b xs e 8 8 w hR hB rfl (by omega)
  simp only [show (((8 : Nat) : Int)) = 8 from rfl] at hv
  have hv1 : leV (takeF xs e 8).1 < 18446744073709551616 := hv.2
  have hv0 := hv.1
  clear hv
  generalize leV (takeF xs e 8).1 = V at *
  have HR := hide hr
  clear hr
  go_enter Tryz.func192, Tryz.ntmps192
  go_wp2_with fail
  refine HR.out.mono ?_
  rintro e1 w1 ⟨rfl, hR', hg⟩
  go_wp2
  go_ret
  exact ⟨rfl, hR', hg⟩
set_option maxHeartbeats 400000 in
theorem err_any (b : Nat) (xs : List Int) (e : Int) (w : World) (hR : RdAt w b xs e) :
    Calls Tryz.prog 195 #[.pointer (some ⟨b, 0, none⟩)] w fun r w' => r = .returned (.int .i64 e) ∧ w' = w := by
  have c1 := hR.err
  have hm := hR.made
  go_enter Tryz.func195, Tryz.ntmps195
  go_wp2_with (first | (go_at_call 208; refine (isNone_at b true _ hm).mono ?_; rintro e1 w' ⟨rfl, rfl⟩) | go_in)
  go_ret
  exact ⟨rfl, rfl⟩
/-- What End answers. -/
def endF (xs : List Int) (e : Int) : Int := if e ≠ 0 then e else if xs = [] then 0 else 5
set_option maxHeartbeats 400000 in
theorem take_any (b : Nat) (xs : List Int) (e n : Int) (w : World) (hR : RdAt w b xs e) (hm1 : -9223372036854775808 ≤ n) (hm2 : n ≤ 9223372036854775807) (hl : xs.length ≤ 140737488355328) :
    Calls Tryz.prog 193 #[.pointer (some ⟨b, 0, none⟩), .int .i64 n] w fun r w' => ∃ v, r = .returned v ∧ w'.ownsRow w.heap.size 5 1 v (takeF xs e n).1.length ((takeF xs e n).1.map (Value.int .u8)) ∧ RdAt w' b (takeF xs e n).2.1 (takeF xs e n).2.2 ∧ w.grownBy w' (some b) := by
  have hnx := next_any b xs e n w hR hm1 hm2
  have hgl : (takeF xs e n).1.length ≤ xs.length := by
    unfold takeF
    repeat (first | (split) | (simp; omega) | simp)
  obtain ⟨⟨G, R, E⟩, hT⟩ : ∃ p, takeF xs e n = p := ⟨_, rfl⟩
  rw [hT] at hnx hgl ⊢
  simp only at hnx hgl ⊢
  have HN := hide hnx
  have hgl2 : G.length ≤ 140737488355328 := by omega
  clear hT hnx hgl
  go_enter Tryz.func193, Tryz.ntmps193
  go_wp2_with fail
  refine HN.out.mono ?_
  rintro e1 w1 ⟨v, rfl, hG, hR', hg⟩
  obtain ⟨ao, cap, rfl, hl', hcm, hat, ho, hn, h5⟩ := hG
  have H := hide (And.intro hR' (And.intro hg (And.intro hat (And.intro ho (And.intro hn h5)))))
  clear hR' hg hat ho hn h5 HN
  go_wp2_with fail
  refine (clone_any ao G.length cap G _ rfl H.out.2.2.1 (fun e => ?_) hgl2).mono ?_
  · have h0 := H.out.2.2.2.2.1 e
    omega
  rintro e1 w2 ⟨v, rfl, hown, hg2⟩
  obtain ⟨ao', cap', rfl, hr⟩ := own_at hown
  clear hr
  go_wp2
  go_ret
  obtain ⟨hR', hg, hat, ho, hn, h5⟩ := H.out
  exact ⟨_, rfl, own_base hown hg.size, hR'.kept hg2 (by simp) (NoBytes.none _), grown_trans hg (grown_none hg2 _)⟩

set_option maxHeartbeats 400000 in
theorem of_any (ao : Option Addr) (n cap : Nat) (xs : List Int) (w : World) (hn : xs.length = n) (hat : At w ao xs) (hnil : ao = none → n = 0 ∧ cap = 0) (hb : n ≤ 140737488355328) :
    Calls Tryz.prog 190 #[.slice ao n cap] w fun r w' => ∃ B, r = .returned (.pointer (some ⟨B, 0, none⟩)) ∧ w.heap.size ≤ B ∧ RdAt w' B xs 0 ∧ w.grownBy w' none := by
  have Hn := hide hn
  clear hn
  go_enter Tryz.func190, Tryz.ntmps190
  go_wp2_with fail
  refine (clone_any ao n cap xs _ Hn.out hat hnil hb).mono ?_
  rintro e1 w1 ⟨v, rfl, hown, hg⟩
  obtain ⟨ao', cap', rfl, hl, hnc, hcm, hat', hnil', h5⟩ := own_at hown
  have H := hide (And.intro hl (And.intro hnc (And.intro hcm (And.intro hat' (And.intro hnil' (And.intro h5 hg))))))
  clear hl hnc hcm hat' hnil' h5 hg hown
  go_wp2
  go_ret
  obtain ⟨hl, hnc, hcm, hat', hnil', h5, hg⟩ := H.out
  have hga := World.grownBy_alloc w1 (.cells (rrow ao' xs.length cap' 0).toArray 286) none
  refine ⟨w1.heap.size, rfl, hg.size, ⟨ao', cap', ?_, by omega, hcm, ?_, ?_, fun e => (hnil' e).2, fun h => absurd rfl h, ?_⟩, ?_⟩
  · rw [hl]; exact heap_alloc_new w1 _
  · rw [← hl]; exact hat'.kept hga (by simp)
  · intro a ha e; have := (h5 a ha).2.1; omega
  · intro a ha
    obtain ⟨_, hlt, c, hc⟩ := h5 a ha
    exact ⟨c, (Below.heap_alloc _ _ _ hlt).trans hc⟩
  · exact grown_trans hg (World.grownBy_alloc w1 _ _)
end Go.Proofs.YtofdijaipjkfbaaGreatDoor.Fm
/- The contracts of the statements' own helpers for bytes: SameBytes, CopyBytes. -/
namespace Go.Proofs.YtofdijaipjkfbaaGreatDoor.Fm
open Go.RowKit
attribute [local go_sem ↓] Go.wp_at_zero Go.wp_at_succ

set_option maxHeartbeats 1000000 in
theorem same_eq (ao bo : Option Addr) (n c d : Nat) (xs : List Int) (w : World) (hn : xs.length = n) (ha : At w ao xs) (hb : At w bo xs) (hm : n ≤ 4611686018427387904) :
    Calls Tryz.prog 63 #[.slice ao n c, .slice bo n d] w fun e w' => e = .returned (.bool true) ∧ w.grownBy w' none := by
  have HA := hide (And.intro hn (And.intro ha hb))
  clear hn ha hb
  go_enter Tryz.func63, Tryz.ntmps63
  go_wp2
  go_loopg [5] n (fun k i wr => ∃ j : Nat, k + j = n ∧ i = .int .i64 j ∧ w.grownBy wr none)
  case atStart => exact ⟨0, by omega, rfl, grown_refl _ _⟩
  case round =>
    obtain ⟨j, hkj, rfl, hg⟩ := hrel
    by_cases hk : 0 < gk
    · obtain ⟨hn, ha, hb⟩ := HA.out
      have hj : j < xs.length := by omega
      obtain ⟨a, rfl, hca⟩ := ha j xs[j] (by simp [hj])
      obtain ⟨b, rfl, hcb⟩ := hb j xs[j] (by simp [hj])
      have hca' := hg.cell hca (by simp)
      have hcb' := hg.cell hcb (by simp)
      have h1 : (0 : Int) ≤ (j : Int) := by omega
      have h2 : (j : Int) < (n : Int) := by omega
      generalize xs[j] = x at *
      clear hn ha hb hca hcb hj
      go_wp2
      go_region_held3 (fun w' => w'.cell? (a.add j) = some (.int .u8 x) ∧ w'.cell? (b.add j) = some (.int .u8 x)) (go_keep) (fail)
      go_wp2
      go_roundg (gk - 1)
      case measure => omega
      case rel => exact ⟨j + 1, by omega, by go_num, grown_trans hg (grown_drew _ _)⟩
    · have hj : j = n := by omega
      subst hj
      go_wp2
      go_ret
      exact ⟨rfl, hg⟩

set_option maxHeartbeats 400000 in
theorem copy_any (ao : Option Addr) (n cap : Nat) (xs : List Int) (w : World) (hn : xs.length = n) (hat : At w ao xs) (hnil : ao = none → n = 0 ∧ cap = 0) (hb : n ≤ 140737488355328) :
    Calls Tryz.prog 20 #[.slice ao n cap] w fun e w' => ∃ v, e = .returned v ∧ w'.ownsRow w.heap.size 5 1 v n (xs.map (Value.int .u8)) ∧ w.grownBy w' none := by
  have Hn := hide hn
  clear hn
  go_enter Tryz.func20, Tryz.ntmps20
  go_wp2_with (at_builtin; refine wpList_append_at rfl (.tmp 4) (.tmp 5) rfl w.heap.size (.slice none 0 0) 0 [] rfl (World.ownsRow_nil _ _ _ _) ao n cap xs rfl Hn.out hat hnil (by omega) (Nat.le_refl _) ?_)
  intro v' w' hown hg
  obtain ⟨ao', cap', rfl, hr⟩ := own_at hown
  clear hr
  go_wp2
  go_ret
  exact ⟨_, rfl, by simpa using hown, grown_then (grown_refl w none) hg (fun k e => by cases e)⟩

/-- A Writer that has just been made. -/
theorem wr_new (w : World) (C : Array Value) (hC : C = (wrow (.pointer none) (List.replicate 64 0) 0).toArray) : WrAt (w.alloc (.cells C 161)) w.heap.size [] := by
  subst hC
  exact ⟨.pointer none, [], List.replicate 64 0, heap_alloc_new w _, by simp, rfl, by simp⟩

theorem zero53 : Tryz.zeroCells161 = (wrow (.pointer none) (List.replicate 64 0) 0).toArray := by kernel_rfl
theorem wr_zero (w : World) : WrAt (w.alloc (.cells Tryz.zeroCells161 161)) w.heap.size [] := wr_new w _ zero53

/-- A row of bytes that has just been laid. -/
theorem at_new (w : World) (xs : List Int) (C : Array Value) (hC : C = (xs.map (Value.int .u8)).toArray) : At (w.alloc (.cells C 5)) (some ⟨w.heap.size, 0, none⟩) xs := by
  subst hC
  intro j u hu
  refine ⟨_, rfl, ?_⟩
  rw [Addr.add_lit, Nat.zero_add, cell_row (heap_alloc_new w _), List.getElem?_map, hu]; rfl
/-- A row of bytes that is known whole. -/
theorem at_row {w : World} {A : Nat} {xs : List Int} {t : TypeId} (h : w.heap[A]? = some (.cells (xs.map (Value.int .u8)).toArray t (0, 0))) : At w (some ⟨A, 0, none⟩) xs := by
  intro j u hu
  refine ⟨_, rfl, ?_⟩
  rw [Addr.add_lit, Nat.zero_add, cell_row h, List.getElem?_map, hu]; rfl
theorem leB_258 : leB 258 2 = [2, 1] := by decide
theorem byt_123 : Byt [1, 2, 3] := by intro x hx; simp at hx; omega

end Go.Proofs.YtofdijaipjkfbaaGreatDoor.Fm
/- The contracts of the statements' own helpers for bytes that are lent: markByte, LentBytes, KeptBytes, OverBytes. -/
namespace Go.Proofs.YtofdijaipjkfbaaGreatDoor.Fm
open Go.RowKit
attribute [local go_sem ↓] Go.wp_at_zero Go.wp_at_succ

/-- The mark of a place. -/
def markB (k i : Int) : Int := IntKind.u64.wrap ((1000003 * (k + 7) + i) * 11400714819323198485) / 72057594037927936 % 256
theorem markB_byte (k i : Int) : 0 ≤ markB k i ∧ markB k i < 256 := by unfold markB; omega
set_option maxHeartbeats 400000 in
theorem mark_any (k i : Int) (w : World) (_hk0 : 0 ≤ k) (_hk : k ≤ 1000000) (_hi0 : 0 ≤ i) (_hi : i ≤ 1000000000000000000) :
    Calls Tryz.prog 76 #[.int .i64 k, .int .i64 i] w fun e w' => e = .returned (.int .u8 (markB k i)) ∧ w' = w := by
  go_enter Tryz.func76, Tryz.ntmps76
  go_wp2
  go_ret
  exact ⟨rfl, rfl⟩

/-- The first j marks. -/
def marks (k : Int) (j : Nat) : List Int := (List.range j).map fun (i : Nat) => markB k (i : Int)
theorem marks_length (k : Int) (j : Nat) : (marks k j).length = j := by simp [marks]
theorem marks_succ (k : Int) (j : Nat) : marks k (j + 1) = marks k j ++ [markB k (j : Int)] := by simp [marks, List.range_succ]
theorem marks_get (k : Int) (j i : Nat) (h : i < j) : (marks k j)[i]? = some (markB k (i : Int)) := by simp [marks, h]

theorem slice_to (ao : Option Addr) (len cap n : Nat) (h : n ≤ cap) (w : World) : (Instr.slice 39 (.slice ao len cap) none (some (.int .i64 (n : Int))) none).run Tryz.prog w = .ok (.slice ao n cap) w := by
  simp [Instr.slice, run_underlying Tryz.underlying39, Instr.sliceBounds, Instr.sliceBound, asIntOf, h]
  intro _; cases ao <;> simp [Addr.add]
theorem make_cap (n : Nat) (h : n ≤ 140737488355328) (w : World) : (Instr.makeSlice 39 (.int .i64 0) (.int .i64 ((n : Int) + 12))).run Tryz.prog w = .ok (.slice (some ⟨w.heap.size, 0, none⟩) 0 (n + 12)) (w.alloc (.cells (zrow (n + 12)).toArray 5)) := by
  obtain ⟨i0, hi, hz0, hz1, hz2⟩ := info_parts Tryz.info5
  rw [run_make (P := Tryz.prog) (w := w) 39 5 i0 (.int .u8 0) Tryz.underlying39 hi hz0 .i64 .i64 0 ((n : Int) + 12) (by omega) (by omega) (by rw [hz2]; omega) (by omega), hz1]
  have e : ((n : Int) + 12).toNat = n + 12 := by omega
  rw [e, Nat.mul_one]
  show Result.ok _ (w.alloc (.cells (madeCells #[.int .u8 0] (n + 12)) 5)) = _
  rw [made_zrow]
  rfl

/-- Bytes that were lent: they, and twelve marks behind their end. -/
def LentAt (w : World) (B : Nat) (v : Value) (xs : List Int) : Prop :=
  ∃ g cap, v = .slice (some ⟨g, 0, none⟩) xs.length cap ∧ w.ownsRow B 5 1 (.slice (some ⟨g, 0, none⟩) (xs.length + 12) cap) (xs.length + 12) ((xs ++ marks 1 12).map (Value.int .u8))

theorem cell_new (w : World) (v : Value) (t : TypeId) : (w.alloc (.cells #[v] t)).cell? ⟨w.heap.size, 0, none⟩ = some v := by
  rw [cell_of_row _ _ 0 #[v] t (0, 0) (heap_alloc_new w _)]; rfl

set_option maxHeartbeats 1000000 in
theorem lent_any (ao : Option Addr) (n cap : Nat) (xs : List Int) (w : World) (hn : xs.length = n) (hat : At w ao xs) (hnil : ao = none → n = 0 ∧ cap = 0) (hb : n ≤ 140737488355000) :
    Calls Tryz.prog 28 #[.slice ao n cap] w fun e w' => ∃ v, e = .returned v ∧ LentAt w' w.heap.size v xs ∧ w.grownBy w' none := by
  have Hn := hide hn
  have hmk := make_cap n (by omega)
  clear hn
  go_enter Tryz.func28, Tryz.ntmps28
  go_wp2_with (at_builtin; refine wpList_append_at rfl (.tmp 9) (.tmp 10) rfl w.heap.size (.slice (some ⟨w.heap.size, 0, none⟩) 0 (n + 12)) 0 [] rfl ?_ ao n cap xs rfl Hn.out ?_ hnil (by omega) (by simp) ?_)
  · exact World.ownsRow_made w _ (n + 12) (Nat.le_refl _) (by unfold maxLen; omega) (by simp [zrow])
  · exact hat.kept (World.grownBy_alloc w _ none) (by simp)
  · intro v1 w1 hown hg
    have G1 : Hid (w.grownBy w1 none) := grown_then (World.grownBy_alloc w _ none) hg (fun k e => by cases e; exact Or.inl (Nat.le_refl _))
    have HO := hide hown
    clear hown hg hmk
    go_wp2
    go_loopg [3, 4] 12 (fun k v i wr => ∃ j : Nat, k + j = 12 ∧ i = .int .i64 j ∧ wr.ownsRow w.heap.size 5 1 v (n + j) ((xs ++ marks 1 j).map (Value.int .u8)) ∧ w.grownBy wr none)
    case atStart => exact ⟨0, rfl, rfl, by simpa [marks] using HO.out, G1.out⟩
    case round =>
      obtain ⟨j, hkj, rfl, hown, hg⟩ := hrel
      by_cases hk : 0 < gk
      · have HO2 := hide (And.intro hown hg)
        clear hown hg
        go_wp2_with (first | (go_at_call 76; refine (mark_any 1 j _ (by omega) (by omega) (by omega) (by omega)).mono ?_; rintro e w' ⟨rfl, rfl⟩) | (at_builtin; refine wpList_append_at rfl (.tmp 16) (.tmp 19) rfl w.heap.size _ (n + j) ((xs ++ marks 1 j).map (Value.int .u8)) rfl (HO2.out.1.alloc _) (some ⟨_, 0, none⟩) 1 1 [markB 1 j] rfl rfl ?_ (fun e => by cases e) (by omega) ?_ ?_))
        · exact at_new _ [markB 1 j] _ rfl
        · have := HO2.out.2.size; simp; omega
        · intro v' w' hown' hg'
          go_wp2
          go_roundg (gk - 1)
          case measure => omega
          case rel =>
            refine ⟨j + 1, by omega, by go_num, ?_, ?_⟩
            · rw [marks_succ]; simpa [Nat.add_assoc] using hown'
            · refine grown_then (grown_trans HO2.out.2 (World.grownBy_alloc _ _ none)) hg' (fun k e => Or.inl (HO2.out.1.lt k e).1)
      · have hj : j = 12 := by omega
        subst hj
        obtain ⟨ao', cap', rfl, hl, hnc, hcm, hat', hnil', h5⟩ := own_at hown
        obtain ⟨a', rfl⟩ : ∃ a', ao' = some a' := by
          cases ao' with
          | none => have := (hnil' rfl).1; omega
          | some a' => exact ⟨a', rfl⟩
        have hst := slice_to (some a') (n + 12) cap' n (by omega)
        have HO2 := hide (And.intro hown hg)
        clear hown hg hl hcm hat' hnil' h5
        go_wp2
        go_ret
        obtain ⟨hown, hg⟩ := HO2.out
        rcases hown.2 with ⟨hx, _⟩ | ⟨g, cap2, cur, hv, hr⟩
        · cases hx
        · cases hv
          refine ⟨_, rfl, ⟨g, cap', by rw [Hn.out]; rfl, ?_⟩, hg⟩
          rw [Hn.out]; exact hown
theorem grown_drewN (w : World) (n : Nat) (row : Option Nat) : w.grownBy (w.drewN n) row := ⟨rfl, rfl, rfl, Nat.le_refl _, fun _ _ _ => rfl⟩
/-- What is lent, as bytes that lie somewhere: they and the marks. -/
theorem LentAt.all {w : World} {B : Nat} {v : Value} {xs : List Int} (h : LentAt w B v xs) : ∃ g cap, v = .slice (some ⟨g, 0, none⟩) xs.length cap ∧ xs.length + 12 ≤ cap ∧ cap ≤ maxLen ∧ B ≤ g ∧ g < w.heap.size ∧
    At w (some ⟨g, 0, none⟩) (xs ++ marks 1 12) ∧ ∃ cur, w.heap[g]? = some (.cells cur 5 (0, 0)) ∧ cur.size = cap := by
  obtain ⟨g, cap, rfl, hown⟩ := h
  obtain ⟨ao', cap', hv, hl, hnc, hcm, hat', hnil', h5⟩ := own_at hown
  cases hv
  obtain ⟨hb, hlt, _⟩ := h5 _ rfl
  rcases hown.2 with ⟨hx, _⟩ | ⟨g2, cap2, cur, hv, _, hc, _, _, hs, _⟩
  · cases hx
  · cases hv
    exact ⟨g, cap, rfl, hnc, hcm, hb, hlt, hat', cur, hc, by simpa using hs⟩
theorem LentAt.at {w : World} {B : Nat} {v : Value} {xs : List Int} (h : LentAt w B v xs) : ∃ g cap, v = .slice (some ⟨g, 0, none⟩) xs.length cap ∧ xs.length ≤ cap ∧ cap ≤ maxLen ∧ B ≤ g ∧ g < w.heap.size ∧ At w (some ⟨g, 0, none⟩) xs ∧ ∃ cur, w.heap[g]? = some (.cells cur 5 (0, 0)) := by
  obtain ⟨g, cap, hv, h1, h2, h3, h4, h5, cur, hc, _⟩ := h.all
  refine ⟨g, cap, hv, by omega, h2, h3, h4, ?_, cur, hc⟩
  intro j u hu
  exact h5 j u (by rw [List.getElem?_append_left (List.getElem?_eq_some_iff.1 hu).1, hu])

set_option maxHeartbeats 1000000 in
theorem kept_any (g cap : Nat) (bo : Option Addr) (n d : Nat) (xs : List Int) (w : World) (hn : xs.length = n) (hc1 : n + 12 ≤ cap) (_hc2 : cap ≤ maxLen) (ha : At w (some ⟨g, 0, none⟩) (xs ++ marks 1 12)) (hb : At w bo xs) (hm : n ≤ 140737488355328) :
    Calls Tryz.prog 29 #[.slice (some ⟨g, 0, none⟩) n cap, .slice bo n d] w fun e w' => e = .returned (.bool true) ∧ w.grownBy w' none := by
  have HA := hide (And.intro hn (And.intro ha hb))
  unfold maxLen at _hc2
  have hst := slice_to (some ⟨g, 0, none⟩) n cap (n + 12) hc1
  have hst2 : ∀ w', (Instr.slice 39 (.slice (some ⟨g, 0, none⟩) n cap) none (some (.int .i64 ((n : Int) + 12))) none).run Tryz.prog w' = .ok (.slice (some ⟨g, 0, none⟩) (n + 12) cap) w' := hst
  clear hn ha hb hst
  go_enter Tryz.func29, Tryz.ntmps29
  go_wp2
  go_loopg [6] (n + 12) (fun k i wr => ∃ j : Nat, k + j = n + 12 ∧ i = .int .i64 j ∧ w.grownBy wr none)
  case atStart => exact ⟨0, by omega, rfl, grown_refl _ _⟩
  case round =>
    obtain ⟨j, hkj, rfl, hg⟩ := hrel
    by_cases hk : 0 < gk
    · obtain ⟨hn, ha, hb⟩ := HA.out
      have hj0 : (0 : Int) ≤ (j : Int) := by omega
      have hj1 : (j : Int) < ((n + 12 : Nat) : Int) := by omega
      by_cases hj : j < n
      · have hjx : j < xs.length := by omega
        obtain ⟨a, e1, hca⟩ := ha j xs[j] (by rw [List.getElem?_append_left hjx]; simp [hjx])
        cases e1
        obtain ⟨b, rfl, hcb⟩ := hb j xs[j] (by simp [hjx])
        have hca' := hg.cell hca (by simp)
        have hcb' := hg.cell hcb (by simp)
        rw [Addr.add_lit, Nat.zero_add] at hca'
        generalize xs[j] = x at *
        have hjn : (j : Int) < (n : Int) := by omega
        have hd1 : decide (n ≤ j) = false := by simp; omega
        clear hn ha hb hca hcb hst2 hjx
        go_wp2
        go_quiet (fail)
        go_wp2
        go_roundg (gk - 1)
        case measure => omega
        case rel => exact ⟨j + 1, by omega, by go_num, grown_trans hg (grown_drewN _ _ _)⟩
      · obtain ⟨i, hji⟩ : ∃ i, j = n + i := ⟨j - n, by omega⟩
        have hi : i < 12 := by omega
        obtain ⟨a, e1, hca⟩ := ha j (markB 1 i) (by rw [hji, List.getElem?_append_right (by omega), hn, Nat.add_sub_cancel_left, marks_get 1 12 i hi])
        cases e1
        have hca' := hg.cell hca (by simp)
        rw [Addr.add_lit, Nat.zero_add] at hca'
        have hd1 : decide (j < n) = false := by simp; omega
        have hd3 : decide (n ≤ j) = true := by simp; omega
        have hmk : ∀ w, Calls Tryz.prog 76 #[.int .i64 1, .int .i64 (i : Int)] w fun e w' => e = .returned (.int .u8 (markB 1 i)) ∧ w' = w := fun w => mark_any 1 i w (by omega) (by omega) (by omega) (by omega)
        have Hmk := hide hmk
        have hsub : (j : Int) - (n : Int) = (i : Int) := by omega
        have HJ := hide hji
        have hwi : IntKind.i64.wrap (i : Int) = (i : Int) := by rw [IntKind.wrap_i64]; omega
        generalize markB 1 (i : Int) = x at *
        clear hn ha hb hca hst2 hmk hji
        go_wp2
        go_quiet ((go_at_call 76; exact Calls.quiet_of_same (Hmk.out _)))
        go_wp2
        go_roundg (gk - 1)
        case measure => omega
        case rel => exact ⟨j + 1, by omega, by go_num, grown_trans hg (grown_drewN _ _ _)⟩
    · have hj : j = n + 12 := by omega
      subst hj
      go_wp2
      go_ret
      exact ⟨rfl, hg⟩
end Go.Proofs.YtofdijaipjkfbaaGreatDoor.Fm
/- The contract of OverBytes; a Reader's bytes that lie behind a bound. -/
namespace Go.Proofs.YtofdijaipjkfbaaGreatDoor.Fm
open Go.RowKit

set_option maxHeartbeats 1000000 in
theorem over_any (g cap n : Nat) (w : World) (hb : ∃ cur, w.heap[g]? = some (.cells cur 5 (0, 0)) ∧ cur.size = cap) (hc1 : n + 12 ≤ cap) (_hc2 : cap ≤ maxLen) (hm : n ≤ 140737488355328) :
    Calls Tryz.prog 30 #[.slice (some ⟨g, 0, none⟩) n cap] w fun e w' => e = .returned (.tuple #[]) ∧ w.grownBy w' (some g) := by
  unfold maxLen at _hc2
  have hst2 : ∀ w', (Instr.slice 39 (.slice (some ⟨g, 0, none⟩) n cap) none (some (.int .i64 ((n : Int) + 12))) none).run Tryz.prog w' = .ok (.slice (some ⟨g, 0, none⟩) (n + 12) cap) w' := slice_to (some ⟨g, 0, none⟩) n cap (n + 12) hc1
  have HB := hide hb
  clear hb
  go_enter Tryz.func30, Tryz.ntmps30
  go_wp2
  go_loopg [3] (n + 12) (fun k i wr => ∃ j : Nat, k + j = n + 12 ∧ i = .int .i64 j ∧ (∃ cur, wr.heap[g]? = some (.cells cur 5 (0, 0)) ∧ cur.size = cap) ∧ w.grownBy wr (some g))
  case atStart => exact ⟨0, by omega, rfl, HB.out, grown_refl _ _⟩
  case round =>
    obtain ⟨j, hkj, rfl, ⟨cur, hb, hs⟩, hg⟩ := hrel
    by_cases hk : 0 < gk
    · have hj1 : (j : Int) < ((n + 12 : Nat) : Int) := by omega
      have hjs : j < cur.size := by omega
      have hc : wr.cell? ⟨g, j, none⟩ = some cur[j] := by rw [cell_of_row wr g j cur 5 (0, 0) hb]; simp [hjs]
      have hf : wr.frozen? ⟨g, j, none⟩ = false := free_row hb _
      have Hb := hide (And.intro hb hs)
      obtain ⟨y, hy⟩ : ∃ y, y = cur[j] := ⟨_, rfl⟩
      rw [← hy] at hc
      clear hb hs hy hst2
      go_wp2_with (first | (go_at_call 76; refine (mark_any 2 j _ (by omega) (by omega) (by omega) (by omega)).mono ?_; rintro e w' ⟨rfl, rfl⟩) | go_in)
      go_roundg (gk - 1)
      case measure => omega
      case rel =>
        refine ⟨j + 1, by omega, by go_num, ⟨cur.setIfInBounds j (.int .u8 (markB 2 j)), ?_, by simp [Hb.out.2]⟩, grown_trans hg (grown_setCell _ g j _)⟩
        have h1 : _ = some (Obj.cells cur.toList.toArray 5 (0, 0)) := Hb.out.1
        have := row_setCell h1 j (.int .u8 (markB 2 j))
        rw [this]
        simp only [Option.some.injEq, Obj.cells.injEq, and_true]
        exact Array.ext' (by simp)
    · have hj : j = n + 12 := by omega
      subst hj
      clear hb hs
      go_wp2
      go_end0
      exact ⟨rfl, hg⟩

/-- A Reader whose bytes lie in blocks from lo on. -/
def RdLo (w : World) (b lo : Nat) : Prop := ∀ ao n cap a, w.cell? ⟨b, 0, none⟩ = some (.slice ao n cap) → ao = some a → lo ≤ a.block
theorem RdAt.keptLo {w w' : World} {b k lo : Nat} {xs : List Int} {e : Int} (h : RdAt w b xs e) (hlo : RdLo w b lo) (hg : w.grownBy w' (some k)) (hk : k < lo) (hkb : k ≠ b) : RdAt w' b xs e := by
  obtain ⟨ao, cap, hb, h1, h2, hat, ho, h3, h4, h5⟩ := h
  have hc : w.cell? ⟨b, 0, none⟩ = some (.slice ao xs.length cap) := by rw [cell_row hb]; rfl
  have hne' : ∀ a, ao = some a → some a.block ≠ some k := fun a ha e => by
    have := hlo ao _ _ a hc ha
    simp at e; omega
  refine ⟨ao, cap, (hg.block b (row_lt hb) (fun e => hkb (by simpa using e.symm))).trans hb, h1, h2, hat.kept hg hne', ho, h3, h4, fun a ha => ?_⟩
  obtain ⟨c, hc⟩ := h5 a ha
  exact ⟨c, (hg.block _ (row_lt hc) (hne' a ha)).trans hc⟩
theorem RdLo.kept {w w' : World} {b lo : Nat} {xs : List Int} {e : Int} {row : Option Nat} (h : RdLo w b lo) (hR : RdAt w b xs e) (hg : w.grownBy w' row) (hne : row ≠ some b) : RdLo w' b lo := by
  intro ao n cap a hc
  rw [World.cell?_of_block (w := w) (a := ⟨b, 0, none⟩) (hg.block b hR.lt (fun e => hne e.symm))] at hc
  exact h ao n cap a hc

set_option maxHeartbeats 400000 in
theorem of_lo (ao : Option Addr) (n cap : Nat) (xs : List Int) (w : World) (hn : xs.length = n) (hat : At w ao xs) (hnil : ao = none → n = 0 ∧ cap = 0) (hb : n ≤ 140737488355328) :
    Calls Tryz.prog 190 #[.slice ao n cap] w fun r w' => ∃ B, r = .returned (.pointer (some ⟨B, 0, none⟩)) ∧ w.heap.size ≤ B ∧ RdAt w' B xs 0 ∧ w.grownBy w' none ∧ RdLo w' B w.heap.size := by
  have Hn := hide hn
  clear hn
  go_enter Tryz.func190, Tryz.ntmps190
  go_wp2_with fail
  refine (clone_any ao n cap xs _ Hn.out hat hnil hb).mono ?_
  rintro e1 w1 ⟨v, rfl, hown, hg⟩
  obtain ⟨ao', cap', rfl, hl, hnc, hcm, hat', hnil', h5⟩ := own_at hown
  have H := hide (And.intro hl (And.intro hnc (And.intro hcm (And.intro hat' (And.intro hnil' (And.intro h5 hg))))))
  clear hl hnc hcm hat' hnil' h5 hg hown
  go_wp2
  go_ret
  obtain ⟨hl, hnc, hcm, hat', hnil', h5, hg⟩ := H.out
  have hga := World.grownBy_alloc w1 (.cells (rrow ao' xs.length cap' 0).toArray 286) none
  refine ⟨w1.heap.size, rfl, hg.size, ⟨ao', cap', ?_, by omega, hcm, ?_, ?_, fun e => (hnil' e).2, fun h => absurd rfl h, ?_⟩, ?_, ?_⟩
  · rw [hl]; exact heap_alloc_new w1 _
  · rw [← hl]; exact hat'.kept hga (by simp)
  · intro a ha e; have := (h5 a ha).2.1; omega
  · intro a ha
    obtain ⟨_, hlt, c, hc⟩ := h5 a ha
    exact ⟨c, (Below.heap_alloc _ _ _ hlt).trans hc⟩
  · exact grown_trans hg (World.grownBy_alloc w1 _ _)
  · intro ao2 n2 cap2 a hc ha
    have e1 : (w1.alloc (.cells (rrow ao' n cap' 0).toArray 286)).cell? ⟨w1.heap.size, 0, none⟩ = some (.slice ao' n cap') := by rw [cell_row (heap_alloc_new w1 _)]; rfl
    have e2 := e1.symm.trans hc
    simp at e2
    obtain ⟨e3, _⟩ := e2
    rw [← e3] at ha
    exact (h5 a ha).1
end Go.Proofs.YtofdijaipjkfbaaGreatDoor.Fm
/- Steps, products and sums of crc, as arithmetic of numbers alone. -/
namespace Go.Proofs.YtofdijaipjkfbaaGreatDoor.Fm.Cr.Poly

def step (r : Nat) : Nat := if r % 2 = 1 then r / 2 ^^^ 3988292384 else r / 2

theorem xor_mod2 (a b : Nat) : (a ^^^ b) % 2 = (a + b) % 2 := by
  have h := @Nat.xor_mod_two_eq_one a b
  have h2 := Nat.mod_two_eq_zero_or_one (a ^^^ b)
  rcases Nat.mod_two_eq_zero_or_one a with ha | ha <;> rcases Nat.mod_two_eq_zero_or_one b with hb | hb <;> rw [ha, hb] at h <;> generalize (a ^^^ b) % 2 = c at * <;> omega

theorem xor_div2 (a b : Nat) : (a ^^^ b) / 2 = a / 2 ^^^ b / 2 := Nat.xor_div_two

theorem xor_swap (a b c : Nat) : a ^^^ b ^^^ c = a ^^^ c ^^^ b := by rw [Nat.xor_assoc, Nat.xor_comm b, ← Nat.xor_assoc]

theorem step_xor (a b : Nat) : step (a ^^^ b) = step a ^^^ step b := by
  unfold step
  rw [xor_mod2, xor_div2]
  rcases Nat.mod_two_eq_zero_or_one a with ha | ha <;> rcases Nat.mod_two_eq_zero_or_one b with hb | hb
  · rw [if_neg (by omega), if_neg (by omega), if_neg (by omega)]
  · rw [if_pos (by omega), if_neg (by omega), if_pos (by omega), Nat.xor_assoc]
  · rw [if_pos (by omega), if_pos (by omega), if_neg (by omega), xor_swap]
  · rw [if_neg (by omega), if_pos (by omega), if_pos (by omega), xor_swap (a / 2), ← Nat.xor_assoc, Nat.xor_assoc (a / 2 ^^^ b / 2), Nat.xor_self, Nat.xor_zero]

theorem xor_lt32 {a b : Nat} (ha : a < 4294967296) (hb : b < 4294967296) : a ^^^ b < 4294967296 := by
  have := @Nat.xor_lt_two_pow a b 32 (by simpa using ha) (by simpa using hb); simpa using this

theorem step_lt {r : Nat} (h : r < 4294967296) : step r < 4294967296 := by
  unfold step; split
  · exact xor_lt32 (by omega) (by decide)
  · omega

theorem step_zero : step 0 = 0 := by decide

def steps : Nat → Nat → Nat
  | 0, r => r
  | k + 1, r => steps k (step r)

theorem steps_xor (k a b : Nat) : steps k (a ^^^ b) = steps k a ^^^ steps k b := by
  induction k generalizing a b with
  | zero => rfl
  | succ k ih => rw [steps, steps, steps, step_xor, ih]

theorem steps_lt (k : Nat) {r : Nat} (h : r < 4294967296) : steps k r < 4294967296 := by
  induction k generalizing r with
  | zero => exact h
  | succ k ih => exact ih (step_lt h)

theorem steps_zero (k : Nat) : steps k 0 = 0 := by
  induction k with
  | zero => rfl
  | succ k ih => rw [steps, step_zero, ih]

theorem steps_add (j k r : Nat) : steps (j + k) r = steps j (steps k r) := by
  induction k generalizing r with
  | zero => rfl
  | succ k ih => rw [Nat.add_succ, steps, steps, ih]

theorem steps_step (k r : Nat) : steps k (step r) = step (steps k r) := by
  have h1 : steps k (step r) = steps (k + 1) r := rfl
  rw [h1, Nat.add_comm, steps_add]; rfl

/-- a number whose lowest bits are nought is only shifted -/
theorem steps_mul (k c : Nat) : steps k (c * 2 ^ k) = c := by
  induction k with
  | zero => simp [steps]
  | succ k ih =>
    have : step (c * 2 ^ (k + 1)) = c * 2 ^ k := by
      unfold step
      rw [Nat.pow_succ, ← Nat.mul_assoc]; rw [if_neg (by omega)]; omega
    rw [steps, this, ih]

theorem low_high (r k : Nat) : (r / 2 ^ k * 2 ^ k) ^^^ (r % 2 ^ k) = r := by
  apply Nat.eq_of_testBit_eq
  intro i
  rw [Nat.testBit_xor, Nat.testBit_mul_two_pow, Nat.testBit_mod_two_pow, Nat.testBit_div_two_pow]
  by_cases h : k ≤ i
  · rw [decide_eq_true h, decide_eq_false (by omega : ¬ i < k)]; simp; congr 1; omega
  · rw [decide_eq_false h, decide_eq_true (by omega : i < k)]; simp

/-- many steps at once: the lowest bits' by themselves -/
theorem steps_split (k r : Nat) : steps k r = r / 2 ^ k ^^^ steps k (r % 2 ^ k) := by
  conv => lhs; rw [← low_high r k]
  rw [steps_xor, steps_mul]

/-! products -/

def mulAcc : Nat → Nat → Nat → Nat → Nat
  | 0, _, _, p => p
  | n + 1, a, b, p => mulAcc n (a * 2 % 4294967296) (step b) (if 2147483648 ≤ a then p ^^^ b else p)

def mul (a b : Nat) : Nat := mulAcc 32 a b 0

theorem mulAcc_nil (n b p : Nat) : mulAcc n 0 b p = p := by
  induction n generalizing b p with
  | zero => rfl
  | succ n ih => rw [mulAcc, if_neg (by decide)]; exact ih _ _

theorem mulAcc_step (n a b p : Nat) : mulAcc n a (step b) (step p) = step (mulAcc n a b p) := by
  induction n generalizing a b p with
  | zero => rfl
  | succ n ih =>
    rw [mulAcc, mulAcc, ← ih]; congr 1
    split
    · rw [step_xor]
    · rfl

theorem mul_step (a b : Nat) : mul a (step b) = step (mul a b) := by
  unfold mul; rw [← mulAcc_step, step_zero]

theorem mulAcc_lt (n a : Nat) {b p : Nat} (hb : b < 4294967296) (hp : p < 4294967296) : mulAcc n a b p < 4294967296 := by
  induction n generalizing a b p with
  | zero => exact hp
  | succ n ih =>
    rw [mulAcc]; apply ih _ (step_lt hb)
    split
    · exact xor_lt32 hp hb
    · exact hp

theorem mul_lt (a : Nat) {b : Nat} (hb : b < 4294967296) : mul a b < 4294967296 := mulAcc_lt 32 a hb (by decide)

theorem mulAcc_one (n c p : Nat) (hn : n ≤ 32) (hc : c < 2 ^ n) : mulAcc n (c * 2 ^ (32 - n)) (2 ^ (n - 1)) p = p ^^^ c := by
  induction n generalizing c p with
  | zero => have : c = 0 := by simpa using hc
            rw [this]; simp [mulAcc]
  | succ n ih =>
    rw [mulAcc]
    have e1 : 32 - n = (32 - (n + 1)) + 1 := by omega
    have e2 : c * 2 ^ (32 - (n + 1)) * 2 % 4294967296 = (c % 2 ^ n) * 2 ^ (32 - n) := by
      have h32 : (4294967296 : Nat) = 2 ^ n * 2 ^ (32 - n) := by rw [← Nat.pow_add]; rw [show n + (32 - n) = 32 by omega]
      rw [Nat.mul_assoc, ← Nat.pow_succ, ← Nat.succ_eq_add_one, Nat.succ_eq_add_one, ← e1, h32, Nat.mul_mod_mul_right]
    have e3 : (2147483648 ≤ c * 2 ^ (32 - (n + 1))) ↔ 2 ^ n ≤ c := by
      have h31 : (2147483648 : Nat) = 2 ^ n * 2 ^ (32 - (n + 1)) := by rw [← Nat.pow_add]; rw [show n + (32 - (n + 1)) = 31 by omega]
      rw [h31]; exact ⟨fun h => Nat.le_of_mul_le_mul_right h (Nat.two_pow_pos _), fun h => Nat.mul_le_mul_right _ h⟩
    have hx : c = (if 2 ^ n ≤ c then 2 ^ n else 0) ^^^ (c % 2 ^ n) := by
      conv => lhs; rw [← low_high c n]
      congr 1
      have hlt : c / 2 ^ n < 2 := by rw [Nat.div_lt_iff_lt_mul (Nat.two_pow_pos n)]; rw [Nat.pow_succ] at hc; omega
      split
      · rename_i h
        have : 0 < c / 2 ^ n := Nat.div_pos h (Nat.two_pow_pos n)
        rw [show c / 2 ^ n = 1 by omega, Nat.one_mul]
      · rename_i h
        rw [Nat.div_eq_of_lt (by omega), Nat.zero_mul]
    cases n with
    | zero =>
      rw [mulAcc]
      have hc2 : c < 2 := by simpa using hc
      have : c = 0 ∨ c = 1 := by omega
      rcases this with rfl | rfl
      · simp
      · simp
    | succ m =>
      have e4 : step (2 ^ (m + 1 + 1 - 1)) = 2 ^ (m + 1 - 1) := by
        have := steps_mul 1 (2 ^ m)
        simp only [steps, Nat.pow_one] at this
        rw [show m + 1 + 1 - 1 = m + 1 by omega, show m + 1 - 1 = m by omega, Nat.pow_succ]; exact this
      rw [e2, e4, ih (c % 2 ^ (m + 1)) _ (by omega) (Nat.mod_lt _ (Nat.two_pow_pos _))]
      conv => rhs; rw [hx]
      simp only [e3]
      rw [show m + 1 + 1 - 1 = m + 1 by omega]
      split
      · rw [Nat.xor_assoc]
      · rw [Nat.zero_xor]

theorem mul_one (a : Nat) (ha : a < 4294967296) : mul a 2147483648 = a := by
  have := mulAcc_one 32 a 0 (by decide) (by simpa using ha)
  simpa [mul] using this

theorem mul_steps (k a : Nat) (ha : a < 4294967296) : mul a (steps k 2147483648) = steps k a := by
  induction k with
  | zero => exact mul_one a ha
  | succ k ih => rw [steps, steps_step, mul_step, ih, steps, steps_step]

/-! back -/

def unstep (r : Nat) : Nat := if 2147483648 ≤ r then ((r ^^^ 3988292384) * 2 + 1) % 4294967296 else r * 2

theorem testBit_31 (r : Nat) (h : r < 4294967296) : r.testBit 31 = decide (2147483648 ≤ r) := by
  have h1 : r / 2147483648 < 2 := by omega
  rw [Nat.testBit_eq_decide_div_mod_eq, show (2 : Nat) ^ 31 = 2147483648 by decide]
  congr 1; apply propext; omega

theorem lt31 {r : Nat} (h : r < 4294967296) : r < 2147483648 ↔ r.testBit 31 = false := by
  rw [testBit_31 r h, decide_eq_false_iff_not]; omega

theorem unstep_lt {r : Nat} (h : r < 4294967296) : unstep r < 4294967296 := by
  unfold unstep; split <;> omega

theorem step_unstep {r : Nat} (h : r < 4294967296) : step (unstep r) = r := by
  unfold unstep; split
  · rename_i h1
    have hx : r ^^^ 3988292384 < 4294967296 := xor_lt32 h (by decide)
    have h2 : r ^^^ 3988292384 < 2147483648 := by
      rw [lt31 hx, Nat.testBit_xor, testBit_31 r h, decide_eq_true h1]; decide
    unfold step
    rw [if_pos (by omega), show ((r ^^^ 3988292384) * 2 + 1) % 4294967296 / 2 = r ^^^ 3988292384 by omega, Nat.xor_assoc, Nat.xor_self, Nat.xor_zero]
  · unfold step; rw [if_neg (by omega)]; omega

theorem unstep_step {r : Nat} (h : r < 4294967296) : unstep (step r) = r := by
  unfold step; split
  · rename_i h1
    have hx : r / 2 ^^^ 3988292384 < 4294967296 := xor_lt32 (by omega) (by decide)
    have h2 : 2147483648 ≤ r / 2 ^^^ 3988292384 := by
      have h3 : (r / 2).testBit 31 = false := (lt31 (by omega)).1 (by omega)
      have : ¬ (r / 2 ^^^ 3988292384) < 2147483648 := by
        rw [lt31 hx, Nat.testBit_xor, h3]; decide
      omega
    unfold unstep; rw [if_pos h2, Nat.xor_assoc, Nat.xor_self, Nat.xor_zero]; omega
  · unfold unstep; rw [if_neg (by omega)]; omega

theorem unstep_xor {a b : Nat} (ha : a < 4294967296) (hb : b < 4294967296) : unstep (a ^^^ b) = unstep a ^^^ unstep b := by
  have := unstep_step (xor_lt32 (unstep_lt ha) (unstep_lt hb))
  rw [step_xor, step_unstep ha, step_unstep hb] at this
  exact this

def unsteps : Nat → Nat → Nat
  | 0, r => r
  | k + 1, r => unsteps k (unstep r)

theorem unsteps_lt (k : Nat) {r : Nat} (h : r < 4294967296) : unsteps k r < 4294967296 := by
  induction k generalizing r with
  | zero => exact h
  | succ k ih => exact ih (unstep_lt h)

theorem unsteps_add (j k r : Nat) : unsteps (j + k) r = unsteps j (unsteps k r) := by
  induction k generalizing r with
  | zero => rfl
  | succ k ih => rw [Nat.add_succ, unsteps, unsteps, ih]

theorem unsteps_unstep (k r : Nat) : unsteps k (unstep r) = unstep (unsteps k r) := by
  have h1 : unsteps k (unstep r) = unsteps (k + 1) r := rfl
  rw [h1, Nat.add_comm, unsteps_add]; rfl

theorem unsteps_xor (k : Nat) {a b : Nat} (ha : a < 4294967296) (hb : b < 4294967296) : unsteps k (a ^^^ b) = unsteps k a ^^^ unsteps k b := by
  induction k generalizing a b with
  | zero => rfl
  | succ k ih => rw [unsteps, unsteps, unsteps, unstep_xor ha hb, ih (unstep_lt ha) (unstep_lt hb)]

theorem unsteps_steps (k : Nat) {r : Nat} (h : r < 4294967296) : unsteps k (steps k r) = r := by
  induction k generalizing r with
  | zero => rfl
  | succ k ih => rw [steps, steps_step, unsteps, unstep_step (steps_lt k h), ih h]

theorem steps_unsteps (k : Nat) {r : Nat} (h : r < 4294967296) : steps k (unsteps k r) = r := by
  induction k generalizing r with
  | zero => rfl
  | succ k ih => rw [unsteps, steps, steps_step, ih (unstep_lt h), step_unstep h]

theorem mul_unstep (a : Nat) {b : Nat} (hb : b < 4294967296) : mul a (unstep b) = unstep (mul a b) := by
  have := mul_step a (unstep b)
  rw [step_unstep hb] at this
  rw [this, unstep_step (mul_lt a (unstep_lt hb))]

theorem mul_unsteps (k a : Nat) (ha : a < 4294967296) : mul a (unsteps k 2147483648) = unsteps k a := by
  induction k with
  | zero => exact mul_one a ha
  | succ k ih => rw [unsteps, unsteps_unstep, mul_unstep a (unsteps_lt k (by decide)), ih, unsteps, unsteps_unstep]

theorem ahead : steps 8 2147483648 = 8388608 := by decide
theorem behind : unsteps 8 2147483648 = 1701301141 := by decide

end Go.Proofs.YtofdijaipjkfbaaGreatDoor.Fm.Cr.Poly
