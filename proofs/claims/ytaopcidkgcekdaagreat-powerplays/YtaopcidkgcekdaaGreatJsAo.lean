/- Texts joined: Blk, Ask, Awk, Px. -/
import Derived.Test.YtaopcidkgcekdaaGreatJsAn
import Derived.Test.YtaopcidkgcekdaaGreatJsAl
/- The contracts of CopyBytes, block, few. -/
namespace Go.Proofs.YtaopcidkgcekdaaGreat
open Go.RowKit Ap
attribute [local go_sem ↓] Go.wp_at_zero Go.wp_at_succ

set_option maxHeartbeats 400000 in
theorem copyBytes_any (ao : Option Addr) (n cap : Nat) (xs : List Nat) (w : World) (hn : xs.length = n) (hat : At w ao xs) (hnil : ao = none → n = 0 ∧ cap = 0) (hb : n ≤ 140737488355328) :
    Calls Tryz.prog 46 #[.slice ao n cap] w fun e w' => ∃ v, e = .returned v ∧ w'.ownsRow w.heap.size 5 1 v n (bv xs) ∧ w.grownBy w' none := by
  have Hn := hide hn
  clear hn
  go_enter Tryz.func46, Tryz.ntmps46
  go_wp2_with (at_builtin; refine wpList_append_at rfl (.tmp 4) (.tmp 5) rfl w.heap.size (.slice none 0 0) 0 [] rfl (World.ownsRow_nil _ _ _ _) ao n cap xs rfl Hn.out hat hnil (by omega) (Nat.le_refl _) ?_)
  intro v' w' hown hg
  obtain ⟨ao', cap', rfl, hr⟩ := own_form hown
  clear hr
  go_wp2
  go_ret
  exact ⟨_, rfl, by simpa using hown, grown_then (grown_refl w none) hg (fun k e => by cases e)⟩
/-- The bytes that a step writes. -/
def blkOf (o : Stp) (size : Nat) : List Nat := if o.raw then o.B else splice (zs size) 0 (o.B.take size)
theorem blkOf_len {o : Stp} {size : Nat} (h : o.raw = false) : (blkOf o size).length = size := by
  unfold blkOf
  rw [h]
  simp [splice, zs]
  omega
theorem blkOf_le (o : Stp) (size : Nat) (hb : o.B.length ≤ 140737488355000) (hs : size ≤ 4096) : (blkOf o size).length ≤ 140737488355000 := by
  cases h : o.raw with
  | true => unfold blkOf; rw [h]; exact hb
  | false => rw [blkOf_len h]; omega
theorem owned_of {w : World} {B A n : Nat} {xs : List Value} (h : w.heap[A]? = some (.cells xs.toArray 5 (0, 0))) (hn : xs.length = n) (hB : B ≤ A) (hm : n ≤ maxLen) : w.ownsRow B 5 1 (.slice (some ⟨A, 0, none⟩) n n) n xs :=
  ⟨by simpa using hn, Or.inr ⟨A, n, xs.toArray, rfl, hB, h, Nat.le_refl _, hm, by simpa using hn, by rw [Nat.mul_one]; simp [← hn]⟩⟩
theorem owned_le {w : World} {base base' size n : Nat} {e : TypeId} {v : Value} {xs : List Value} (h : w.ownsRow base e size v n xs) (hb : base' ≤ base) : w.ownsRow base' e size v n xs := by
  refine ⟨h.1, ?_⟩
  rcases h.2 with h1 | ⟨g, cap, cur, h1, h2, h3⟩
  · exact Or.inl h1
  · exact Or.inr ⟨g, cap, cur, h1, by omega, h3⟩
set_option maxRecDepth 20000 in
set_option maxHeartbeats 1000000 in
theorem block_any (o : Stp) (bo : Option Addr) (bc : Nat) (fo : Option Addr) (fc : Nat) (size : Nat) (hs : size ≤ 4096) (w : World) (h : SIn w o bo bc fo fc) :
    Calls Tryz.prog 28 #[.agg (scells o bo bc fo fc).toArray, .int .i64 (size : Int)] w fun e w' => ∃ v, e = .returned v ∧ w'.ownsRow w.heap.size 5 1 v (blkOf o size).length (bv (blkOf o size)) ∧ w.grownBy w' none := by
  obtain ⟨kd, on, at_, B, raw, F⟩ := o
  unfold scells blkOf
  simp only
  have g0 := World.grownBy_alloc w (.cells #[.int .i64 kd, .int .i64 on, .int .i64 at_, .slice bo B.length bc, .bool raw, .slice fo F.length fc] 35) none
  have r0 := heap_alloc_new w (.cells #[.int .i64 kd, .int .i64 on, .int .i64 at_, .slice bo B.length bc, .bool raw, .slice fo F.length fc] 35)
  have c3 : (w.alloc (.cells #[.int .i64 kd, .int .i64 on, .int .i64 at_, .slice bo B.length bc, .bool raw, .slice fo F.length fc] 35)).cell? ⟨w.heap.size, 3, none⟩ = some (.slice bo B.length bc) := cell_row (l := [.int .i64 kd, .int .i64 on, .int .i64 at_, .slice bo B.length bc, .bool raw, .slice fo F.length fc]) r0 3
  have c4 : (w.alloc (.cells #[.int .i64 kd, .int .i64 on, .int .i64 at_, .slice bo B.length bc, .bool raw, .slice fo F.length fc] 35)).cell? ⟨w.heap.size, 4, none⟩ = some (.bool raw) := cell_row (l := [.int .i64 kd, .int .i64 on, .int .i64 at_, .slice bo B.length bc, .bool raw, .slice fo F.length fc]) r0 4
  have HB := hide (And.intro (h.bin.grown g0) g0)
  have hsz := g0.size
  clear h r0
  cases raw with
  | true =>
    have HC := hide (copyBytes_any bo B.length bc B _ rfl HB.out.1.at_ HB.out.1.nil (by have := HB.out.1.size; simp only at this; omega))
    clear g0
    simp only [if_true]
    go_enter Tryz.func28, Tryz.ntmps28
    go_wp2_with fail
    refine HC.out.mono ?_
    rintro e w' ⟨v, rfl, h1, h2⟩
    have H2 := hide (And.intro (owned_le h1 hsz) (grown_trans HB.out.2 h2))
    obtain ⟨ao', cap', rfl, hr⟩ := own_form h1
    clear hr h1 h2
    go_wp2
    go_ret
    exact ⟨_, rfl, H2.out.1, H2.out.2⟩
  | false =>
    simp only [if_false, Bool.false_eq_true]
    have hX : (w.alloc (.cells #[.int .i64 kd, .int .i64 on, .int .i64 at_, .slice bo B.length bc, .bool false, .slice fo F.length fc] 35)).heap.size = w.heap.size + 1 := by simp
    have hmk := make_bytes size (by omega) (w.alloc (.cells #[.int .i64 kd, .int .i64 on, .int .i64 at_, .slice bo B.length bc, .bool false, .slice fo F.length fc] 35))
    have hz : (B.take size).length = Nat.min B.length size := by rw [List.length_take]; exact Nat.min_comm _ _
    have hat : At (w.alloc (.cells #[.int .i64 kd, .int .i64 on, .int .i64 at_, .slice bo B.length bc, .bool false, .slice fo F.length fc] 35)) bo (B.take size) := by
      intro j u hu
      rw [List.getElem?_take] at hu
      split at hu
      · exact HB.out.1.at_ j u hu
      · cases hu
    obtain ⟨W, hrun, hW, hg⟩ := run_copy_any ((w.alloc (.cells #[.int .i64 kd, .int .i64 on, .int .i64 at_, .slice bo B.length bc, .bool false, .slice fo F.length fc] 35)).alloc (.cells (bv (zs size)).toArray 5)) (w.alloc (.cells #[.int .i64 kd, .int .i64 on, .int .i64 at_, .slice bo B.length bc, .bool false, .slice fo F.length fc] 35)).heap.size 0 size size bo B.length bc (zs size) (B.take size) (heap_alloc_new _ _) hz (by simp [zs]; omega) (hat.grown (World.grownBy_alloc _ _ none))
    have c3' := (World.grownBy_alloc (w.alloc (.cells #[.int .i64 kd, .int .i64 on, .int .i64 at_, .slice bo B.length bc, .bool false, .slice fo F.length fc] 35)) (.cells (bv (zs size)).toArray 5) none).cell c3 (by simp)
    have hlen : (splice (zs size) 0 (B.take size)).length = size := by simp [splice, zs]; omega
    have HW : Hid (W.ownsRow w.heap.size 5 1 (.slice (some ⟨(w.alloc (.cells #[.int .i64 kd, .int .i64 on, .int .i64 at_, .slice bo B.length bc, .bool false, .slice fo F.length fc] 35)).heap.size, 0, none⟩) size size) size (bv (splice (zs size) 0 (B.take size))) ∧ w.grownBy W none) := by
      refine ⟨owned_of hW (by rw [bv_length, hlen]) hsz (by unfold maxLen; omega), ?_⟩
      exact grown_trans HB.out.2 (grown_then (World.grownBy_alloc _ _ none) hg (fun k e => by cases e; exact Or.inl (Nat.le_refl _)))
    rw [hX] at hmk hrun
    have HL := hide hlen
    clear hW hg hat hlen g0
    go_enter Tryz.func28, Tryz.ntmps28
    go_wp2
    go_ret
    refine ⟨_, rfl, ?_, HW.out.2⟩
    rw [HL.out]
    have := HW.out.1
    rw [hX] at this
    exact this
theorem few_take (os : List Stp) : (os.take 80).length = min os.length 80 := by simp; omega
set_option maxRecDepth 20000 in
set_option maxHeartbeats 1000000 in
/-- The first steps. -/
theorem few_any (ao : Option Addr) (m cap : Nat) (os : List Stp) (w : World) (hm : os.length = m) (hc : m ≤ cap) (ho : StsAt w ao os) :
    Calls Tryz.prog 6 #[.slice ao m cap] w fun e w' => ∃ m', e = .returned (.slice ao m' cap) ∧ m' ≤ 80 ∧ StsAt w ao (os.take 80) ∧ (os.take 80).length = m' ∧ w' = w := by
  have H : Hid (StsAt w ao (os.take 80)) := fun j o hj => by
    rw [List.getElem?_take] at hj
    split at hj
    · exact ho j o hj
    · cases hj
  have HL := hide (few_take os)
  have HM := hide hm
  clear ho hm
  by_cases h : m ≤ 80
  · go_enter Tryz.func6, Tryz.ntmps6
    go_wp2
    go_ret
    exact ⟨m, rfl, h, H.out, by rw [HL.out, HM.out]; omega, rfl⟩
  · have hsl : (Instr.slice 22 (.slice ao m cap) none (some (.int .i64 80)) none).run Tryz.prog w = .ok (.slice ao 80 cap) w := by
      have h8 : (80 : Int) ≤ (cap : Int) := by omega
      simp [Instr.slice, run_underlying Tryz.underlying22, Instr.sliceBounds, Instr.sliceBound, asIntOf, h8]
      try (intro _; cases ao <;> simp [Addr.add])
      try (cases ao <;> simp [Addr.add])
    go_enter Tryz.func6, Tryz.ntmps6
    go_wp2
    go_ret
    exact ⟨80, rfl, Nat.le_refl _, H.out, by rw [HL.out, HM.out]; omega, rfl⟩
end Go.Proofs.YtaopcidkgcekdaaGreat
/- The contracts of does and asks. -/
namespace Go.Proofs.YtaopcidkgcekdaaGreat
open Go.RowKit Ap
attribute [local go_sem ↓] Go.wp_at_zero Go.wp_at_succ

/-- What a step's operation comes to on a disk. -/
def opCode (n size : Nat) (o : Stp) : Int := if o.kd = 1 then wcode n size o.at_ (blkOf o size).length else if o.kd = 2 then rcode n o.at_ else 0
def opBytes (n size : Nat) (D : List Nat) (W : List Wt) (o : Stp) : List Nat := if o.kd = 2 then rbytes n size D W o.at_ else []
def opA (n size : Nat) (o : Stp) (st : List Nat × List Pr) : List Nat × List Pr := if o.kd = 1 then (st.1, wabs n size o.at_ (blkOf o size) st.2) else if o.kd = 2 then st else syncA size st
def Done (w0 w w' : World) (n size : Nat) (k : Dk) (D : List Nat) (W : List Wt) (o : Stp) (e : Ending) : Prop :=
  ∃ v, e = .returned (.tuple #[v, .int .i64 (opCode n size o)]) ∧ Gives w w' size v (opBytes n size D W o) ∧ ∃ k' D' W', DkS w0 w' k' n size D' W' ∧ Moved w w' k k' W W' ∧ (D', abs W') = opA n size o (D, abs W) ∧ W'.length ≤ W.length + 1
def Asked (w0 w w' : World) (n size b : Nat) (s : Dv) (k : Dk) (D : List Nat) (W : List Wt) (o : Stp) (e : Ending) : Prop :=
  ∃ v, e = .returned (.tuple #[v, .int .i64 (s.code (opCode n size o))]) ∧ Gives w w' size v (if s.goes then opBytes n size D W o else []) ∧ ∃ k' D' W', Dev w0 w' n size b s.next k' D' W' ∧ DvM w w' b k k' W W' ∧ (D', abs W') = (if s.goes then opA n size o (D, abs W) else (D, abs W)) ∧ W'.length ≤ W.length + 1
theorem scells_at {w : World} {o : Stp} {bo fo : Option Addr} {bc fc : Nat} (j : Nat) (v : Value) (hv : (scells o bo bc fo fc)[j]? = some v) : (w.alloc (.cells (scells o bo bc fo fc).toArray 35)).cell? ⟨w.heap.size, j, none⟩ = some v := (cell_row (heap_alloc_new w (.cells (scells o bo bc fo fc).toArray 35)) j).trans hv
section
variable {w0 w : World} {n size b d : Nat} {s : Dv} {k : Dk} {D : List Nat} {W : List Wt}
set_option maxRecDepth 20000 in
set_option maxHeartbeats 8000000 in
theorem asks_write (h : Dev w0 w n size b s k D W) (hW : W.length ≤ 1000) (hc : s.cnt < 100000) (on at_ : Int) (Bs : List Nat) (raw : Bool) (F : List (Int × Int)) (bo : Option Addr) (bc : Nat) (fo : Option Addr) (fc : Nat) (hs : SIn w ⟨1, on, at_, Bs, raw, F⟩ bo bc fo fc) :
    Calls Tryz.prog 19 #[.pointer (some ⟨b, 0, none⟩), .agg #[.int .i64 1, .int .i64 on, .int .i64 at_, .slice bo Bs.length bc, .bool raw, .slice fo F.length fc]] w fun e w' => Asked w0 w w' n size b s k D W ⟨1, on, at_, Bs, raw, F⟩ e := by
  have g0 := World.grownBy_alloc w (.cells #[.int .i64 1, .int .i64 on, .int .i64 at_, .slice bo Bs.length bc, .bool raw, .slice fo F.length fc] 35) none
  have HR : Hid ((w.alloc (.cells #[.int .i64 1, .int .i64 on, .int .i64 at_, .slice bo Bs.length bc, .bool raw, .slice fo F.length fc] 35)).heap[w.heap.size]? = some (.cells (scells ⟨1, on, at_, Bs, raw, F⟩ bo bc fo fc).toArray 35 (0, 0))) := heap_alloc_new w _
  have b0 : (w.alloc (.cells #[.int .i64 1, .int .i64 on, .int .i64 at_, .slice bo Bs.length bc, .bool raw, .slice fo F.length fc] 35)).cell? ⟨w.heap.size, 0, none⟩ = some (.int .i64 1) := cell_row HR.out 0
  have b1 : (w.alloc (.cells #[.int .i64 1, .int .i64 on, .int .i64 at_, .slice bo Bs.length bc, .bool raw, .slice fo F.length fc] 35)).cell? ⟨w.heap.size, 1, none⟩ = some (.int .i64 on) := cell_row HR.out 1
  have b2 : (w.alloc (.cells #[.int .i64 1, .int .i64 on, .int .i64 at_, .slice bo Bs.length bc, .bool raw, .slice fo F.length fc] 35)).cell? ⟨w.heap.size, 2, none⟩ = some (.int .i64 at_) := cell_row HR.out 2
  have b3 : (w.alloc (.cells #[.int .i64 1, .int .i64 on, .int .i64 at_, .slice bo Bs.length bc, .bool raw, .slice fo F.length fc] 35)).cell? ⟨w.heap.size, 3, none⟩ = some (.slice bo Bs.length bc) := cell_row HR.out 3
  have b4 : (w.alloc (.cells #[.int .i64 1, .int .i64 on, .int .i64 at_, .slice bo Bs.length bc, .bool raw, .slice fo F.length fc] 35)).cell? ⟨w.heap.size, 4, none⟩ = some (.bool raw) := cell_row HR.out 4
  have b5 : (w.alloc (.cells #[.int .i64 1, .int .i64 on, .int .i64 at_, .slice bo Bs.length bc, .bool raw, .slice fo F.length fc] 35)).cell? ⟨w.heap.size, 5, none⟩ = some (.slice fo F.length fc) := cell_row HR.out 5
  have s1 := h.disk.disk.shape.s1
  have HH := hide (And.intro (h.then g0) (And.intro hW (And.intro (hs.grown g0) (And.intro g0 hc))))
  have H0 := hide h
  have hbl : Hid (b < w.heap.size) := h.dev.lt
  clear h hW hs g0 hc
  go_enter Tryz.func19, Tryz.ntmps19
  go_wp2_with fail
  generalize w.alloc (.cells #[.int .i64 1, .int .i64 on, .int .i64 at_, .slice bo Bs.length bc, .bool raw, .slice fo F.length fc] 35) = wa at *
  obtain ⟨B, hB⟩ : ∃ B, B = w.heap.size := ⟨_, rfl⟩
  have HB := hide hB
  rw [← hB] at b0 b1 b2 b3 b4 b5 HR ⊢
  clear hB
  go_region_held3 (fun w' => w'.cell? ⟨B, 0, none⟩ = some (.int .i64 1) ∧ w'.cell? ⟨B, 1, none⟩ = some (.int .i64 on) ∧ w'.cell? ⟨B, 2, none⟩ = some (.int .i64 at_) ∧ w'.cell? ⟨B, 3, none⟩ = some (.slice bo Bs.length bc) ∧ w'.cell? ⟨B, 4, none⟩ = some (.bool raw) ∧ w'.cell? ⟨B, 5, none⟩ = some (.slice fo F.length fc)) (first | exact ⟨b0, b1, b2, b3, b4, b5⟩ | assumption | go_keep) (first
    | (go_at_call 53; refine (dsize_any (HH.out.1.then (grown_drew _ _))).mono ?_; rintro e w1 ⟨rfl, rfl⟩)
    | (go_at_call 28; refine (block_any ⟨1, on, at_, Bs, raw, F⟩ bo bc fo fc size s1 _ (HH.out.2.2.1.grown (grown_drew _ _))).mono ?_; rintro e w2 ⟨v, rfl, o2, g2⟩; have g2' := grown_trans (grown_drew wa none) g2; have hS2 : w2.cell? ⟨B, 0, none⟩ = some (.int .i64 1) ∧ w2.cell? ⟨B, 1, none⟩ = some (.int .i64 on) ∧ w2.cell? ⟨B, 2, none⟩ = some (.int .i64 at_) ∧ w2.cell? ⟨B, 3, none⟩ = some (.slice bo Bs.length bc) ∧ w2.cell? ⟨B, 4, none⟩ = some (.bool raw) ∧ w2.cell? ⟨B, 5, none⟩ = some (.slice fo F.length fc) := ⟨g2'.cell b0 (by simp), g2'.cell b1 (by simp), g2'.cell b2 (by simp), g2'.cell b3 (by simp), g2'.cell b4 (by simp), g2'.cell b5 (by simp)⟩; have r2 := (g2'.block B (row_lt HR.out) (by simp)).trans HR.out; obtain ⟨ao, cap, rfl, q1, q2, q3, q4, q5, q6⟩ := own_at o2; have A1 := hide (And.intro (And.intro q1 (And.intro q4 r2)) g2'); clear o2 g2 g2' r2 q1 q2 q3 q4 q5 q6)
    | (go_at_call 31; refine (dwrite_any (HH.out.1.then A1.out.2) HH.out.2.1 HH.out.2.2.2.2 at_ ao (blkOf ⟨1, on, at_, Bs, raw, F⟩ size).length cap (blkOf ⟨1, on, at_, Bs, raw, F⟩ size) A1.out.1.2.1 rfl).mono ?_; rintro e w3 ⟨rfl, k3, W3, d3, m3, a3, l3⟩; have r3 := m3.kept.at A1.out.1.2.2 (by rintro (e | e); exact (HH.out.1.then A1.out.2).disk.disk.other_off A1.out.1.2.2 (by decide) (by decide) (by decide) e; have e : B = b := e; have := HB.out; have := hbl.out; omega); have hS3 : w3.cell? ⟨B, 0, none⟩ = some (.int .i64 1) ∧ w3.cell? ⟨B, 1, none⟩ = some (.int .i64 on) ∧ w3.cell? ⟨B, 2, none⟩ = some (.int .i64 at_) ∧ w3.cell? ⟨B, 3, none⟩ = some (.slice bo Bs.length bc) ∧ w3.cell? ⟨B, 4, none⟩ = some (.bool raw) ∧ w3.cell? ⟨B, 5, none⟩ = some (.slice fo F.length fc) := ⟨cell_row r3 0, cell_row r3 1, cell_row r3 2, cell_row r3 3, cell_row r3 4, cell_row r3 5⟩; have A3 := hide (And.intro d3 (And.intro m3 (And.intro a3 l3))); clear d3 m3 a3 l3 r3))
  clear b0 b1 b2 b3 b4 b5 hS2 hS3
  go_wp2
  go_ret2
  exact ⟨_, by simp [opCode], Or.inl ⟨rfl, by simp [opBytes]⟩, k3, D, W3, A3.out.1, DvM.pre HH.out.2.2.2.1 (DvM.pre A1.out.2 A3.out.2.1), by rw [opA, if_pos rfl, A3.out.2.2.1]; cases s.goes <;> rfl, A3.out.2.2.2⟩
set_option maxRecDepth 20000 in
set_option maxHeartbeats 8000000 in
theorem asks_read (h : Dev w0 w n size b s k D W) (hc : s.cnt < 100000) (on at_ : Int) (Bs : List Nat) (raw : Bool) (F : List (Int × Int)) (bo : Option Addr) (bc : Nat) (fo : Option Addr) (fc : Nat) :
    Calls Tryz.prog 19 #[.pointer (some ⟨b, 0, none⟩), .agg #[.int .i64 2, .int .i64 on, .int .i64 at_, .slice bo Bs.length bc, .bool raw, .slice fo F.length fc]] w fun e w' => Asked w0 w w' n size b s k D W ⟨2, on, at_, Bs, raw, F⟩ e := by
  have g0 := World.grownBy_alloc w (.cells #[.int .i64 2, .int .i64 on, .int .i64 at_, .slice bo Bs.length bc, .bool raw, .slice fo F.length fc] 35) none
  have HR : Hid ((w.alloc (.cells #[.int .i64 2, .int .i64 on, .int .i64 at_, .slice bo Bs.length bc, .bool raw, .slice fo F.length fc] 35)).heap[w.heap.size]? = some (.cells (scells ⟨2, on, at_, Bs, raw, F⟩ bo bc fo fc).toArray 35 (0, 0))) := heap_alloc_new w _
  have b0 : (w.alloc (.cells #[.int .i64 2, .int .i64 on, .int .i64 at_, .slice bo Bs.length bc, .bool raw, .slice fo F.length fc] 35)).cell? ⟨w.heap.size, 0, none⟩ = some (.int .i64 2) := cell_row HR.out 0
  have b2 : (w.alloc (.cells #[.int .i64 2, .int .i64 on, .int .i64 at_, .slice bo Bs.length bc, .bool raw, .slice fo F.length fc] 35)).cell? ⟨w.heap.size, 2, none⟩ = some (.int .i64 at_) := cell_row HR.out 2
  have HH := hide (And.intro (h.then g0) (And.intro g0 hc))
  have hsz := g0.size
  have HG := hide g0
  clear h g0 hc
  go_enter Tryz.func19, Tryz.ntmps19
  go_wp2_with fail
  generalize w.alloc (.cells #[.int .i64 2, .int .i64 on, .int .i64 at_, .slice bo Bs.length bc, .bool raw, .slice fo F.length fc] 35) = wa at *
  generalize w.heap.size = B at *
  refine (dread_any HH.out.1 HH.out.2.2 at_).mono ?_
  rintro e w2 ⟨v, rfl, v2, d2, m2⟩
  have H2 := hide (And.intro v2 (And.intro d2 m2))
  clear v2 d2 m2
  go_wp2
  go_ret2
  exact ⟨v, by simp [opCode], H2.out.1.later (HG.out.size) (grown_refl _ _), k, D, W, H2.out.2.1, DvM.pre HG.out H2.out.2.2, by simp [opA], by omega⟩
set_option maxRecDepth 20000 in
set_option maxHeartbeats 8000000 in
theorem asks_sync (h : Dev w0 w n size b s k D W) (hc : s.cnt < 100000) (on at_ : Int) (Bs : List Nat) (raw : Bool) (F : List (Int × Int)) (bo : Option Addr) (bc : Nat) (fo : Option Addr) (fc : Nat) :
    Calls Tryz.prog 19 #[.pointer (some ⟨b, 0, none⟩), .agg #[.int .i64 3, .int .i64 on, .int .i64 at_, .slice bo Bs.length bc, .bool raw, .slice fo F.length fc]] w fun e w' => Asked w0 w w' n size b s k D W ⟨3, on, at_, Bs, raw, F⟩ e := by
  have g0 := World.grownBy_alloc w (.cells #[.int .i64 3, .int .i64 on, .int .i64 at_, .slice bo Bs.length bc, .bool raw, .slice fo F.length fc] 35) none
  have HR : Hid ((w.alloc (.cells #[.int .i64 3, .int .i64 on, .int .i64 at_, .slice bo Bs.length bc, .bool raw, .slice fo F.length fc] 35)).heap[w.heap.size]? = some (.cells (scells ⟨3, on, at_, Bs, raw, F⟩ bo bc fo fc).toArray 35 (0, 0))) := heap_alloc_new w _
  have b0 : (w.alloc (.cells #[.int .i64 3, .int .i64 on, .int .i64 at_, .slice bo Bs.length bc, .bool raw, .slice fo F.length fc] 35)).cell? ⟨w.heap.size, 0, none⟩ = some (.int .i64 3) := cell_row HR.out 0
  have b2 : (w.alloc (.cells #[.int .i64 3, .int .i64 on, .int .i64 at_, .slice bo Bs.length bc, .bool raw, .slice fo F.length fc] 35)).cell? ⟨w.heap.size, 2, none⟩ = some (.int .i64 at_) := cell_row HR.out 2
  have HH := hide (And.intro (h.then g0) (And.intro g0 hc))
  have hsz := g0.size
  have HG := hide g0
  clear h g0 hc
  go_enter Tryz.func19, Tryz.ntmps19
  go_wp2_with fail
  generalize w.alloc (.cells #[.int .i64 3, .int .i64 on, .int .i64 at_, .slice bo Bs.length bc, .bool raw, .slice fo F.length fc] 35) = wa at *
  generalize w.heap.size = B at *
  refine (dsync_any HH.out.1 HH.out.2.2).mono ?_
  rintro e w2 ⟨rfl, k2, D2, W2, d2, m2, a2, l2⟩
  have H2 := hide (And.intro d2 (And.intro m2 (And.intro a2 l2)))
  clear d2 m2 a2 l2
  go_wp2
  go_ret2
  exact ⟨_, by simp [opCode], Or.inl ⟨rfl, by simp [opBytes]⟩, k2, D2, W2, H2.out.1, DvM.pre HG.out H2.out.2.1, by simpa [opA] using H2.out.2.2.1, by have := H2.out.2.2.2; omega⟩
end
end Go.Proofs.YtaopcidkgcekdaaGreat
/- The contract of awake. -/
namespace Go.Proofs.YtaopcidkgcekdaaGreat
open Go.RowKit Ap
attribute [local go_sem ↓] Go.wp_at_zero Go.wp_at_succ

/-- A block that a device does not know. -/
structure Aside (w : World) (k : Dk) (b A : Nat) (o : Obj) : Prop where
  at_ : w.heap[A]? = some o
  own : ¬ k.own A
  ne : A ≠ b
section
variable {w w' : World} {k k' : Dk} {b A : Nat} {o : Obj} {W W' : List Wt}
theorem Aside.moved (h : Aside w k b A o) (m : DvM w w' b k k' W W') : Aside w' k' b A o := by
  refine ⟨m.kept.at h.at_ (fun e => e.elim h.own h.ne), ?_, h.ne⟩
  intro e
  rcases m.own A e with e | e
  · exact h.own e
  · have := row_lt h.at_; omega
theorem Aside.new (h : Aside w k b A o) (hg : w.grownBy w' none) : Aside w' k b A o := ⟨(hg.block A (row_lt h.at_) (by simp)).trans h.at_, h.own, h.ne⟩
theorem Dev.aside {w0 : World} {n size : Nat} {s : Dv} {D : List Nat} (h : Dev w0 w n size b s k D W) (_hg : w.grownBy w' none) (hA : w'.heap[A]? = some o) (hl : w.heap.size ≤ A) : Aside w' k b A o := by
  refine ⟨hA, fun e => ?_, ?_⟩
  · have := h.disk.disk.lt A (.inl e); omega
  · have := h.dev.lt; omega
end
def awkX : List Nat := (zs 64).set 9 7
theorem awk_len : awkX.length = 64 := by kernel_rfl
theorem awk_wabs : wabs 4 64 1 awkX [] = [(1, awkX)] := by simp [wabs, awk_len]
theorem awk_sec : secOf 64 (stlP 64 (fun _ => 64) (zs (4 * 64)) [(1, awkX)] 1) 1 = awkX := by kernel_rfl
theorem set_bytes {w : World} {A i v : Nat} {xs : List Nat} (h : w.heap[A]? = some (.cells (bv xs).toArray 5 (0, 0))) : (w.setCell ⟨A, i, none⟩ (.int .u8 (v : Int))).heap[A]? = some (.cells (bv (xs.set i v)).toArray 5 (0, 0)) := by
  have := row_setCell h i (.int .u8 (v : Int))
  rw [this]
  simp [bv, List.map_set]
theorem abs_nil {W : List Wt} (h : abs W = []) : W = [] := by simpa [abs] using h
set_option maxRecDepth 20000 in
set_option maxHeartbeats 4000000 in
theorem awake_any (w : World) : Calls Tryz.prog 11 #[] w fun e w' => e = .returned (.bool true) ∧ w.grownBy w' none := by
  go_enter Tryz.func11, Tryz.ntmps11
  go_wp2_with fail
  refine (newS 4 64 w w (grown_refl _ _) may_4_64).mono ?_
  rintro e w1 ⟨k, rfl, h1, h2, h3⟩
  have HN := hide h1
  clear h1 h2 h3
  go_wp2_with fail
  refine (dnew_any rfl HN.out).mono ?_
  rintro e w2 ⟨b, rfl, d2, l2, g2⟩
  have H2 := hide d2
  clear d2 l2 g2
  have hmk : ∀ w : World, (Instr.makeSlice 32 (.int .i64 64) (.int .i64 64)).run Tryz.prog w = .ok (.slice (some ⟨w.heap.size, 0, none⟩) 64 64) (w.alloc (.cells (bv (zs 64)).toArray 5)) := fun w => make_bytes 64 (by omega) w
  have r0 := heap_alloc_new w2 (.cells (bv (zs 64)).toArray 5)
  have f9 : (w2.alloc (.cells (bv (zs 64)).toArray 5)).frozen? ⟨w2.heap.size, 9, none⟩ = false := free_row r0 9
  have c9 : (w2.alloc (.cells (bv (zs 64)).toArray 5)).cell? ⟨w2.heap.size, 9, none⟩ = some (.int .u8 0) := cell_row r0 9
  go_wp2_with fail
  clear r0 f9 c9
  have g3 := World.grownBy_alloc w2 (.cells ((bv (zs 64)).set 9 (.int .u8 7)).toArray 5) none
  have r3 : (w2.alloc (.cells ((bv (zs 64)).set 9 (.int .u8 7)).toArray 5)).heap[w2.heap.size]? = some (.cells (bv awkX).toArray 5 (0, 0)) := heap_alloc_new w2 _
  have X3 := hide (H2.out.aside g3 r3 (Nat.le_refl _))
  have H3 := hide (H2.out.then g3)
  clear g3 r3
  generalize w2.alloc (.cells ((bv (zs 64)).set 9 (.int .u8 7)).toArray 5) = w3 at *
  generalize w2.heap.size = A at *
  refine (dwrite_any H3.out (by simp) (by decide) 1 (some ⟨A, 0, none⟩) 64 64 awkX (at_row X3.out.at_) awk_len).mono ?_
  rintro e w4 ⟨rfl, k4, W4, d4, m4, a4, l4⟩
  rw [show Dv.anew.code (wcode 4 64 1 64) = 0 by decide]
  have H4 := hide d4
  have X4 := hide (X3.out.moved m4)
  have E4 : Hid (abs W4 = [(1, awkX)]) := a4.trans (by rw [show Dv.anew.goes = true by decide, if_pos rfl]; exact awk_wabs)
  have S4 : Dv.anew.next = ⟨false, -1, 1⟩ := by rfl
  rw [S4] at H4
  clear d4 m4 a4 l4 S4
  go_wp2_with fail
  refine (arm_any H4.out.dev 1 (by omega)).mono ?_
  rintro e w5 ⟨rfl, d5, g5⟩
  rw [show Dv.upc ⟨false, -1, 1⟩ = 0 by decide]
  have H5 := hide (H4.out.dset g5 d5)
  have X5 := hide (X4.out.moved (DvM.row (W := W4) g5))
  rw [show Dv.armed ⟨false, -1, 1⟩ 1 = ⟨false, 1, 1⟩ by rfl] at H5
  clear d5 g5
  go_wp2_with fail
  refine (dsync_any H5.out (by decide)).mono ?_
  rintro e w6 ⟨rfl, k6, D6, W6, d6, m6, a6, l6⟩
  rw [show Dv.code ⟨false, 1, 1⟩ 0 = 0 by decide]
  have H6 := hide d6
  have X6 := hide (X5.out.moved m6)
  have E6 : Hid (D6 = stlP 64 (fun _ => 64) (zs (4 * 64)) [(1, awkX)] 1 ∧ abs W6 = []) := by
    rw [show Dv.goes ⟨false, 1, 1⟩ = true by decide, if_pos rfl, E4.out] at a6
    exact Prod.mk.inj a6
  rw [show Dv.next ⟨false, 1, 1⟩ = ⟨false, 0, 2⟩ by rfl] at H6
  clear d6 m6 a6 l6
  have hW6 : W6 = [] := abs_nil E6.out.2
  subst hW6
  go_wp2_with fail
  have g7 := World.grownBy_alloc w6 (.cells (bv (zs 64)).toArray 5) none
  have r7 := heap_alloc_new w6 (.cells (bv (zs 64)).toArray 5)
  have X7 := hide (X6.out.new g7)
  have H7 := hide (H6.out.then g7)
  have R7 := hide r7
  clear g7 r7
  generalize w6.alloc (.cells (bv (zs 64)).toArray 5) = w7 at *
  generalize w6.heap.size = A2 at *
  refine (dwrite_any H7.out (by simp) (by decide) 1 (some ⟨A2, 0, none⟩) 64 64 (zs 64) (at_row R7.out) (by simp [zs])).mono ?_
  rintro e w8 ⟨rfl, k8, W8, d8, m8, a8, l8⟩
  rw [show Dv.code ⟨false, 0, 2⟩ (wcode 4 64 1 64) = 60 by decide]
  have H8 := hide d8
  have X8 := hide (X7.out.moved m8)
  have E8 : Hid (abs W8 = []) := by rw [show Dv.goes ⟨false, 0, 2⟩ = false by decide] at a8; exact a8
  rw [show Dv.next ⟨false, 0, 2⟩ = ⟨true, -1, 2⟩ by rfl] at H8
  clear d8 m8 a8 l8
  have hW8 : W8 = [] := abs_nil E8.out
  subst hW8
  go_wp2_with fail
  refine (down_any H8.out.dev).mono ?_
  rintro e w' ⟨rfl, rfl⟩
  go_wp2_with fail
  refine (restart_any H8.out none 0 0 [] rfl (fun j p hj => by simp at hj) (fun a e => by cases e)).mono ?_
  rintro e w9 ⟨rfl, D9, d9, m9, a9⟩
  have H9 := hide d9
  have X9 := hide (X8.out.moved m9)
  have E9 : Hid (D9 = D6) := (Prod.mk.inj a9).1
  clear d9 m9 a9
  go_wp2_with fail
  refine (dread_any H9.out (by decide) 1).mono ?_
  rintro e w10 ⟨v, rfl, v10, d10, m10⟩
  rw [show Dv.anew.code (rcode 4 1) = 0 by decide]
  have X10 := hide (X9.out.moved m10)
  have H10 := hide d10
  rw [show Dv.anew.next = ⟨false, -1, 1⟩ by rfl] at H10
  rw [show Dv.anew.goes = true by decide, if_pos rfl] at v10
  have ef : rbytes 4 64 D9 [] 1 = awkX := by
    show secOf 64 D9 1 = awkX
    rw [E9.out, E6.out.1]; exact awk_sec
  rw [ef] at v10
  obtain ⟨g, hv, R10⟩ : ∃ g, v = .slice (some ⟨g, 0, none⟩) 64 64 ∧ Hid (w10.heap[g]? = some (.cells (bv awkX).toArray 5 (0, 0))) := by
    rcases v10 with ⟨_, h⟩ | ⟨g, h1, h2, h3, h4⟩
    · have := congrArg List.length h; rw [awk_len] at this; simp at this
    · exact ⟨g, h1, h3⟩
  subst hv
  clear v10 d10 m10 ef
  go_wp2_with fail
  refine (sameBytes_eq (some ⟨A, 0, none⟩) (some ⟨g, 0, none⟩) 64 64 64 awkX w10 awk_len (at_row X10.out.at_) (at_row R10.out) (by omega)).mono ?_
  rintro e w11 ⟨rfl, q, rfl⟩
  have H11 := hide (H10.out.then (grown_drewN _ q none))
  go_wp2_with fail
  refine (count_any H11.out.dev).mono ?_
  rintro e w' ⟨rfl, rfl⟩
  go_wp2
  go_ret
  exact ⟨rfl, H11.out.disk.grown⟩
end Go.Proofs.YtaopcidkgcekdaaGreat
/- A device beside the document's. -/
namespace Go.Proofs.YtaopcidkgcekdaaGreat
open Go.RowKit Ap

structure Px where
  b : Nat
  s : Dv
  k : Dk
  D : List Nat
  W : List Wt
  c : Nat
  t : Dv
  q : Rk
structure PxAt (w0 w : World) (n size : Nat) (p : Px) : Prop where
  dev : Dev w0 w n size p.b p.s p.k p.D p.W
  rd : RDev w w0.heap.size n size p.c p.t p.q
  ap : ∀ i, foot p.k p.W i → ¬ rfoot p.q i
/-- The blocks that it may write. -/
def Px.own (p : Px) (i : Nat) : Prop := p.k.own i ∨ rfoot p.q i ∨ i = p.b ∨ i = p.c
/-- The blocks that it looks at. -/
def Px.all (p : Px) (i : Nat) : Prop := foot p.k p.W i ∨ rfoot p.q i ∨ i = p.b ∨ i = p.c
structure PxM (w w' : World) (p p' : Px) : Prop where
  eb : p'.b = p.b
  ec : p'.c = p.c
  kd : p'.k.d = p.k.d
  own : ∀ i, p'.own i → p.own i ∨ w.heap.size ≤ i
  all : ∀ i, p'.all i → p.all i ∨ w.heap.size ≤ i
  kept : Kept w w' p.own
structure PxW (w0 w w' : World) (n size : Nat) (p p' : Px) : Prop where
  z : PxAt w0 w' n size p'
  mv : PxM w w' p p'
  low : w0.heap.size ≤ w.heap.size
/-- They hold the same. -/
structure PxSame (n size : Nat) (p : Px) : Prop where
  st : p.s = p.t
  rows : secs n size p.D = (rst p.q).1
  waits : abs p.W = (rst p.q).2
section
variable {w0 w w' w'' : World} {n size : Nat} {p p' : Px}
theorem PxAt.bq (h : PxAt w0 w n size p) : ¬ rfoot p.q p.b := h.rd.ref.other_off h.dev.dev.head (by decide) (by decide) (by decide) (by decide)
theorem PxAt.cf (h : PxAt w0 w n size p) : ¬ foot p.k p.W p.c := by
  rintro (e | ⟨x, hx, e⟩)
  · exact h.dev.disk.disk.other_off h.rd.dev.head (by decide) (by decide) (by decide) e
  · have h1 := (h.dev.disk.disk.waits x hx).2.2.2
    have h2 := h.rd.dev.head
    rw [← e, h1] at h2
    simp at h2
theorem PxAt.bc (h : PxAt w0 w n size p) : p.b ≠ p.c := by
  intro e
  have h1 := h.dev.dev.head
  rw [e, h.rd.dev.head] at h1
  simp at h1
theorem PxAt.lt (h : PxAt w0 w n size p) : ∀ i, p.all i → i < w.heap.size := by
  rintro i (e | e | rfl | rfl)
  · exact h.dev.disk.disk.lt i e
  · exact (h.rd.ref.lt i e).2
  · exact h.dev.dev.lt
  · exact h.rd.dev.lt
theorem PxAt.low (h : PxAt w0 w n size p) : ∀ i, p.own i → w0.heap.size ≤ i := by
  rintro i (e | e | rfl | rfl)
  · exact h.dev.disk.own i e
  · exact (h.rd.ref.lt i e).1
  · exact h.dev.low
  · exact h.rd.low
theorem Px.own_all {i : Nat} (h : p.own i) : p.all i := by
  rcases h with e | e | e | e
  · exact .inl (.inl e)
  · exact .inr (.inl e)
  · exact .inr (.inr (.inl e))
  · exact .inr (.inr (.inr e))
theorem PxAt.then (h : PxAt w0 w n size p) (hg : w.grownBy w' none) : PxAt w0 w' n size p := ⟨h.dev.then hg, h.rd.then hg, h.ap⟩
theorem PxAt.other (h : PxAt w0 w n size p) {S : Nat → Prop} (hk : Kept w w' S) (hS : ∀ i, p.all i → ¬ S i) (hl : ∀ i, S i → w0.heap.size ≤ i) : PxAt w0 w' n size p :=
  ⟨⟨⟨h.dev.disk.disk.kept hk (fun i hi => hS i (.inl hi)), h.dev.disk.own, kept_new h.dev.disk.grown hk hl⟩, h.dev.dev.kept hk (hS _ (.inr (.inr (.inl rfl)))), h.dev.low⟩, ⟨h.rd.ref.kept hk (fun i hi => hS i (.inr (.inl hi))), h.rd.dev.kept hk (hS _ (.inr (.inr (.inr rfl)))), h.rd.low⟩, h.ap⟩
theorem PxW.refl (h : PxAt w0 w n size p) : PxW w0 w w n size p p := ⟨h, ⟨rfl, rfl, rfl, fun _ e => .inl e, fun _ e => .inl e, Kept.refl _ _⟩, h.dev.disk.grown.size⟩
theorem PxW.new (h : PxW w0 w w' n size p p') (hg : w'.grownBy w'' none) : PxW w0 w w'' n size p p' :=
  ⟨h.z.then hg, ⟨h.mv.eb, h.mv.ec, h.mv.kd, h.mv.own, h.mv.all, h.mv.kept.trans (Kept.new hg _) (fun _ _ e => e)⟩, h.low⟩
/-- A block that came later is written. -/
theorem PxW.row {g : Nat} (h : PxW w0 w w' n size p p') (hg : w'.grownBy w'' (some g)) (hn : w.heap.size ≤ g) (h1 : ¬ p'.all g) : PxW w0 w w'' n size p p' := by
  have hk : Kept w' w'' (fun i => i = g) := Kept.of hg (fun _ e _ => (Option.some.inj e).symm)
  exact ⟨h.z.other hk (fun i hi e => by have e : i = g := e; exact h1 (e ▸ hi)) (fun i e => by have e : i = g := e; have := h.low; omega), ⟨h.mv.eb, h.mv.ec, h.mv.kd, h.mv.own, h.mv.all, h.mv.kept.trans hk (fun i hi e => by have e : i = g := e; omega)⟩, h.low⟩
/-- The device goes on. -/
theorem PxW.dev {s' : Dv} {k' : Dk} {D' : List Nat} {W' : List Wt} (h : PxW w0 w w' n size p p') (hd : Dev w0 w'' n size p'.b s' k' D' W') (hm : DvM w' w'' p'.b p'.k k' p'.W W') : PxW w0 w w'' n size p ⟨p'.b, s', k', D', W', p'.c, p'.t, p'.q⟩ := by
  have hz := h.mv.kept.size
  have hft : ∀ i, foot k' W' i → foot p'.k p'.W i ∨ w'.heap.size ≤ i := by
    rintro i (e | ⟨x, hx, rfl⟩)
    · exact (hm.own i e).imp .inl id
    · rcases hm.blk x hx with ⟨y, hy, e⟩ | e
      · exact Or.inl (.inr ⟨y, hy, e⟩)
      · exact Or.inr e
  have hnb : ¬ rfoot p'.q p'.b := h.z.bq
  have hcf : ¬ foot p'.k p'.W p'.c := h.z.cf
  have hbc : p'.b ≠ p'.c := h.z.bc
  refine ⟨⟨hd, ⟨h.z.rd.ref.kept hm.kept ?_, h.z.rd.dev.kept hm.kept ?_, h.z.rd.low⟩, ?_⟩, ⟨h.mv.eb, h.mv.ec, hm.d.trans h.mv.kd, ?_, ?_, h.mv.kept.trans hm.kept ?_⟩, h.low⟩
  · rintro i hi (e | e)
    · exact h.z.ap i (.inl e) hi
    · have e : i = p'.b := e
      exact hnb (e ▸ hi)
  · rintro (e | e)
    · exact hcf (.inl e)
    · exact hbc e.symm
  · intro i hi hr
    rcases hft i hi with e | e
    · exact h.z.ap i e hr
    · have := (h.z.rd.ref.lt i hr).2; omega
  · rintro i (e | e | e | e)
    · rcases hm.own i e with e | e
      · exact h.mv.own i (.inl e)
      · exact Or.inr (by omega)
    · exact h.mv.own i (.inr (.inl e))
    · exact h.mv.own i (.inr (.inr (.inl e)))
    · exact h.mv.own i (.inr (.inr (.inr e)))
  · rintro i (e | e | e | e)
    · rcases hft i e with e | e
      · exact h.mv.all i (.inl e)
      · exact Or.inr (by omega)
    · exact h.mv.all i (.inr (.inl e))
    · exact h.mv.all i (.inr (.inr (.inl e)))
    · exact h.mv.all i (.inr (.inr (.inr e)))
  · rintro i hi (e | e)
    · rcases h.mv.own i (.inl e) with e | e
      · exact e
      · omega
    · rcases h.mv.own i (.inr (.inr (.inl e))) with e | e
      · exact e
      · omega
/-- The document's device goes on. -/
theorem PxW.ref {t' : Dv} {q' : Rk} (h : PxW w0 w w' n size p p') (hq : RDev w'' w0.heap.size n size p'.c t' q') (hm : RM w' w'' p'.c p'.q q') : PxW w0 w w'' n size p ⟨p'.b, p'.s, p'.k, p'.D, p'.W, p'.c, t', q'⟩ := by
  have hz := h.mv.kept.size
  have hnb : ¬ rfoot p'.q p'.b := h.z.bq
  have hcf : ¬ foot p'.k p'.W p'.c := h.z.cf
  have hbc : p'.b ≠ p'.c := h.z.bc
  have hl : ∀ i, rfoot p'.q i ∨ i = p'.c → w0.heap.size ≤ i := by
    rintro i (e | rfl)
    · exact (h.z.rd.ref.lt i e).1
    · exact h.z.rd.low
  have hno : ∀ i, foot p'.k p'.W i → ¬ (rfoot p'.q i ∨ i = p'.c) := by
    rintro i hi (e | e)
    · exact h.z.ap i hi e
    · exact hcf (e ▸ hi)
  refine ⟨⟨⟨⟨h.z.dev.disk.disk.kept hm.kept hno, h.z.dev.disk.own, kept_new h.z.dev.disk.grown hm.kept hl⟩, h.z.dev.dev.kept hm.kept ?_, h.z.dev.low⟩, hq, ?_⟩, ⟨h.mv.eb, h.mv.ec, h.mv.kd, ?_, ?_, h.mv.kept.trans hm.kept ?_⟩, h.low⟩
  · rintro (e | e)
    · exact hnb e
    · exact hbc e
  · intro i hi e
    rcases hm.rf i e with e | e
    · exact h.z.ap i hi e
    · have := h.z.dev.disk.disk.lt i hi; omega
  · rintro i (e | e | e | e)
    · exact h.mv.own i (.inl e)
    · rcases hm.rf i e with e | e
      · exact h.mv.own i (.inr (.inl e))
      · exact Or.inr (by omega)
    · exact h.mv.own i (.inr (.inr (.inl e)))
    · exact h.mv.own i (.inr (.inr (.inr e)))
  · rintro i (e | e | e | e)
    · exact h.mv.all i (.inl e)
    · rcases hm.rf i e with e | e
      · exact h.mv.all i (.inr (.inl e))
      · exact Or.inr (by omega)
    · exact h.mv.all i (.inr (.inr (.inl e)))
    · exact h.mv.all i (.inr (.inr (.inr e)))
  · rintro i hi (e | e)
    · rcases h.mv.own i (.inr (.inl e)) with e | e
      · exact e
      · omega
    · rcases h.mv.own i (.inr (.inr (.inr e))) with e | e
      · exact e
      · omega
theorem PxSame.len (h : PxSame n size p) : p.q.V.length = p.W.length := by
  have := congrArg List.length h.waits
  simpa [abs, rst, absV] using this.symm
end
end Go.Proofs.YtaopcidkgcekdaaGreat
