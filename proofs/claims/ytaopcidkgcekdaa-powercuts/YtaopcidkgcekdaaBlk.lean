/- The contracts of CopyBytes, block, few. -/
import Derived.Test.YtaopcidkgcekdaaArgP
import Derived.Test.YtaopcidkgcekdaaDev3
namespace Go.Proofs.Ytaopcidkgcekdaa
open Go.RowKit Ap
attribute [local go_sem ↓] Go.wp_at_zero Go.wp_at_succ

set_option maxHeartbeats 400000 in
theorem copyBytes_any (ao : Option Addr) (n cap : Nat) (xs : List Nat) (w : World) (hn : xs.length = n) (hat : At w ao xs) (hnil : ao = none → n = 0 ∧ cap = 0) (hb : n ≤ 140737488355328) :
    Calls Try.prog 47 #[.slice ao n cap] w fun e w' => ∃ v, e = .returned v ∧ w'.ownsRow w.heap.size 5 1 v n (bv xs) ∧ w.grownBy w' none := by
  have Hn := hide hn
  clear hn
  go_enter Try.func47, Try.ntmps47
  go_wp2_with (at_builtin; refine wpList_append_at rfl (.tmp 4) (.tmp 5) rfl w.heap.size (.slice none 0 0) 0 [] rfl (World.ownsRow_nil _ _ _ _) ao n cap xs rfl Hn.out hat hnil (by omega) (Nat.le_refl _) ?_)
  intro v' w' hown hg
  obtain ⟨ao', cap', rfl, hr⟩ := own_form hown
  clear hr
  go_wp2
  go_ret
  exact ⟨_, rfl, by simpa using hown, grown_then (grown_refl w none) hg (fun k e => by cases e)⟩
/-- The bytes that a step writes. -/
def blkOf (o : Stp) (size : Nat) : List Nat := if o.raw then o.B else splice (zs size) 0 (o.B.take size)
theorem blkOf_len {o : Stp} {size : Nat} (h : o.raw = false) : (blkOf o size).length = size := by
  unfold blkOf
  rw [h]
  simp [splice, zs]
  omega
theorem blkOf_le (o : Stp) (size : Nat) (hb : o.B.length ≤ 140737488355000) (hs : size ≤ 4096) : (blkOf o size).length ≤ 140737488355000 := by
  cases h : o.raw with
  | true => unfold blkOf; rw [h]; exact hb
  | false => rw [blkOf_len h]; omega
theorem owned_of {w : World} {B A n : Nat} {xs : List Value} (h : w.heap[A]? = some (.cells xs.toArray 5 (0, 0))) (hn : xs.length = n) (hB : B ≤ A) (hm : n ≤ maxLen) : w.ownsRow B 5 1 (.slice (some ⟨A, 0, none⟩) n n) n xs :=
  ⟨by simpa using hn, Or.inr ⟨A, n, xs.toArray, rfl, hB, h, Nat.le_refl _, hm, by simpa using hn, by rw [Nat.mul_one]; simp [← hn]⟩⟩
theorem owned_le {w : World} {base base' size n : Nat} {e : TypeId} {v : Value} {xs : List Value} (h : w.ownsRow base e size v n xs) (hb : base' ≤ base) : w.ownsRow base' e size v n xs := by
  refine ⟨h.1, ?_⟩
  rcases h.2 with h1 | ⟨g, cap, cur, h1, h2, h3⟩
  · exact Or.inl h1
  · exact Or.inr ⟨g, cap, cur, h1, by omega, h3⟩
set_option maxRecDepth 20000 in
set_option maxHeartbeats 1000000 in
theorem block_any (o : Stp) (bo : Option Addr) (bc : Nat) (fo : Option Addr) (fc : Nat) (size : Nat) (hs : size ≤ 4096) (w : World) (h : SIn w o bo bc fo fc) :
    Calls Try.prog 34 #[.agg (scells o bo bc fo fc).toArray, .int .i64 (size : Int)] w fun e w' => ∃ v, e = .returned v ∧ w'.ownsRow w.heap.size 5 1 v (blkOf o size).length (bv (blkOf o size)) ∧ w.grownBy w' none := by
  obtain ⟨kd, on, at_, B, raw, F⟩ := o
  unfold scells blkOf
  simp only
  have g0 := World.grownBy_alloc w (.cells #[.int .i64 kd, .int .i64 on, .int .i64 at_, .slice bo B.length bc, .bool raw, .slice fo F.length fc] 45) none
  have r0 := heap_alloc_new w (.cells #[.int .i64 kd, .int .i64 on, .int .i64 at_, .slice bo B.length bc, .bool raw, .slice fo F.length fc] 45)
  have c3 : (w.alloc (.cells #[.int .i64 kd, .int .i64 on, .int .i64 at_, .slice bo B.length bc, .bool raw, .slice fo F.length fc] 45)).cell? ⟨w.heap.size, 3, none⟩ = some (.slice bo B.length bc) := cell_row (l := [.int .i64 kd, .int .i64 on, .int .i64 at_, .slice bo B.length bc, .bool raw, .slice fo F.length fc]) r0 3
  have c4 : (w.alloc (.cells #[.int .i64 kd, .int .i64 on, .int .i64 at_, .slice bo B.length bc, .bool raw, .slice fo F.length fc] 45)).cell? ⟨w.heap.size, 4, none⟩ = some (.bool raw) := cell_row (l := [.int .i64 kd, .int .i64 on, .int .i64 at_, .slice bo B.length bc, .bool raw, .slice fo F.length fc]) r0 4
  have HB := hide (And.intro (h.bin.grown g0) g0)
  have hsz := g0.size
  clear h r0
  cases raw with
  | true =>
    have HC := hide (copyBytes_any bo B.length bc B _ rfl HB.out.1.at_ HB.out.1.nil (by have := HB.out.1.size; simp only at this; omega))
    clear g0
    simp only [if_true]
    go_enter Try.func34, Try.ntmps34
    go_wp2_with fail
    refine HC.out.mono ?_
    rintro e w' ⟨v, rfl, h1, h2⟩
    have H2 := hide (And.intro (owned_le h1 hsz) (grown_trans HB.out.2 h2))
    obtain ⟨ao', cap', rfl, hr⟩ := own_form h1
    clear hr h1 h2
    go_wp2
    go_ret
    exact ⟨_, rfl, H2.out.1, H2.out.2⟩
  | false =>
    simp only [if_false, Bool.false_eq_true]
    have hX : (w.alloc (.cells #[.int .i64 kd, .int .i64 on, .int .i64 at_, .slice bo B.length bc, .bool false, .slice fo F.length fc] 45)).heap.size = w.heap.size + 1 := by simp
    have hmk := make_bytes size (by omega) (w.alloc (.cells #[.int .i64 kd, .int .i64 on, .int .i64 at_, .slice bo B.length bc, .bool false, .slice fo F.length fc] 45))
    have hz : (B.take size).length = Nat.min B.length size := by rw [List.length_take]; exact Nat.min_comm _ _
    have hat : At (w.alloc (.cells #[.int .i64 kd, .int .i64 on, .int .i64 at_, .slice bo B.length bc, .bool false, .slice fo F.length fc] 45)) bo (B.take size) := by
      intro j u hu
      rw [List.getElem?_take] at hu
      split at hu
      · exact HB.out.1.at_ j u hu
      · cases hu
    obtain ⟨W, hrun, hW, hg⟩ := run_copy_any ((w.alloc (.cells #[.int .i64 kd, .int .i64 on, .int .i64 at_, .slice bo B.length bc, .bool false, .slice fo F.length fc] 45)).alloc (.cells (bv (zs size)).toArray 5)) (w.alloc (.cells #[.int .i64 kd, .int .i64 on, .int .i64 at_, .slice bo B.length bc, .bool false, .slice fo F.length fc] 45)).heap.size 0 size size bo B.length bc (zs size) (B.take size) (heap_alloc_new _ _) hz (by simp [zs]; omega) (hat.grown (World.grownBy_alloc _ _ none))
    have c3' := (World.grownBy_alloc (w.alloc (.cells #[.int .i64 kd, .int .i64 on, .int .i64 at_, .slice bo B.length bc, .bool false, .slice fo F.length fc] 45)) (.cells (bv (zs size)).toArray 5) none).cell c3 (by simp)
    have hlen : (splice (zs size) 0 (B.take size)).length = size := by simp [splice, zs]; omega
    have HW : Hid (W.ownsRow w.heap.size 5 1 (.slice (some ⟨(w.alloc (.cells #[.int .i64 kd, .int .i64 on, .int .i64 at_, .slice bo B.length bc, .bool false, .slice fo F.length fc] 45)).heap.size, 0, none⟩) size size) size (bv (splice (zs size) 0 (B.take size))) ∧ w.grownBy W none) := by
      refine ⟨owned_of hW (by rw [bv_length, hlen]) hsz (by unfold maxLen; omega), ?_⟩
      exact grown_trans HB.out.2 (grown_then (World.grownBy_alloc _ _ none) hg (fun k e => by cases e; exact Or.inl (Nat.le_refl _)))
    rw [hX] at hmk hrun
    have HL := hide hlen
    clear hW hg hat hlen g0
    go_enter Try.func34, Try.ntmps34
    go_wp2
    go_ret
    refine ⟨_, rfl, ?_, HW.out.2⟩
    rw [HL.out]
    have := HW.out.1
    rw [hX] at this
    exact this
theorem few_take (os : List Stp) : (os.take 80).length = min os.length 80 := by simp; omega
set_option maxHeartbeats 1000000 in
/-- The first steps. -/
theorem few_any (ao : Option Addr) (m cap : Nat) (os : List Stp) (w : World) (hm : os.length = m) (hc : m ≤ cap) (ho : StsAt w ao os) :
    Calls Try.prog 11 #[.slice ao m cap] w fun e w' => ∃ m', e = .returned (.slice ao m' cap) ∧ m' ≤ 80 ∧ StsAt w ao (os.take 80) ∧ (os.take 80).length = m' ∧ w' = w := by
  have H : Hid (StsAt w ao (os.take 80)) := fun j o hj => by
    rw [List.getElem?_take] at hj
    split at hj
    · exact ho j o hj
    · cases hj
  have HL := hide (few_take os)
  have HM := hide hm
  clear ho hm
  by_cases h : m ≤ 80
  · go_enter Try.func11, Try.ntmps11
    go_wp2
    go_ret
    exact ⟨m, rfl, h, H.out, by rw [HL.out, HM.out]; omega, rfl⟩
  · have hsl : (Instr.slice 38 (.slice ao m cap) none (some (.int .i64 80)) none).run Try.prog w = .ok (.slice ao 80 cap) w := by
      have h8 : (80 : Int) ≤ (cap : Int) := by omega
      simp [Instr.slice, run_underlying Try.underlying38, Instr.sliceBounds, Instr.sliceBound, asIntOf, h8]
      try (intro _; cases ao <;> simp [Addr.add])
      try (cases ao <;> simp [Addr.add])
    go_enter Try.func11, Try.ntmps11
    go_wp2
    go_ret
    exact ⟨80, rfl, Nat.le_refl _, H.out, by rw [HL.out, HM.out]; omega, rfl⟩
end Go.Proofs.Ytaopcidkgcekdaa
