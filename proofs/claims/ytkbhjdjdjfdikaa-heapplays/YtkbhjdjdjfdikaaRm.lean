/- The walk of HeapPlays. -/
import Derived.Test.YtkbhjdjdjfdikaaRl
import Derived.Test.YtkbhjdjdjfdikaaRq
import Derived.Deep.CutRange
import Derived.Deep.DeepCutAuto
namespace Go.Proofs.Ytkbhjdjdjfdikaa
open Go.RowKit Ap Go.Shelf
attribute [local go_sem ↓] Go.wp_at_zero Go.wp_at_succ
theorem Tw.down {w0 w1 w : World} {k : Int} {b : Nat} {p : Hp} {r : Nat} {E : List (Nat × Int)} {N M B : Nat} (t : Tw w1 w k b p r (.slice none 0 0) E [] N M B) (g : w0.grownBy w1 none) : Tw w0 w k b p r (.slice none 0 0) E [] N M B :=
  ⟨t.hs, fun j e => Nat.le_trans g.size (t.hown j e), ⟨t.rf.head, World.ownsRow_nil _ _ _ _, Nat.le_trans g.size t.rf.base⟩, Nat.le_trans g.size t.bx, grown_trans g t.grown⟩
set_option maxRecDepth 100000 in
set_option maxHeartbeats 8000000 in
theorem heapPlays_of (hIs : ∀ (w0 w : World) (k : Int) (h r b n : Nat) (S : Nat → Prop), Pa w0 w k h r b n S → 0 ≤ k → n ≤ 50000 → ∀ xa, I64 xa → Calls Try.prog 12 #[.agg (paV h r k).toArray, .int .i64 xa] w fun e w' => e = .returned (.bool true) ∧ w.grownBy w' none)
    (one two : Int) (ao : Option Addr) (len cap : Nat) (os : List OpD) (w : World) (hlen : os.length = len) (hO : OpsAt w ao os) (hok : ∀ o ∈ os, o.Ok) (hc : len ≤ cap) :
    Calls Try.prog 3 #[.int .i64 one, .int .i64 two, .slice ao len cap] w fun e w' => e = .returned (.bool true) ∧ w.grownBy w' none := by
  have HIS := hide hIs
  have hf1 := fresh_any one w w (grown_refl _ _)
  obtain ⟨k1, hk1⟩ : ∃ k1, k1 = one % 7 := ⟨_, rfl⟩
  obtain ⟨k2, hk2⟩ : ∃ k2, k2 = two % 7 := ⟨_, rfl⟩
  have HK := hide (And.intro (show 0 ≤ k1 by omega) (show 0 ≤ k2 by omega))
  rw [← hk1] at hf1
  have hfw := few_any ao len cap hc
  obtain ⟨L, hL⟩ : ∃ L, L = min len 300 := ⟨_, rfl⟩
  rw [← hL] at hfw
  have HO := hide (And.intro hlen (And.intro hO (And.intro hok (show L ≤ len ∧ L ≤ 300 by omega))))
  have hf2 := fun w1 => fresh_any two w1 w1 (grown_refl _ _)
  rw [← hk2] at hf2
  obtain ⟨o1, ho1⟩ : ∃ o1, o1 = decide (k1 < 4) := ⟨_, rfl⟩
  obtain ⟨o2, ho2⟩ : ∃ o2, o2 = decide (k2 < 4) := ⟨_, rfl⟩
  rw [← ho1] at hf1
  rw [← ho2] at hf2
  have HOO := hide (And.intro ho1 ho2)
  clear hIs hlen hO hok hc hL hk1 hk2 ho1 ho2
  go_enter Try.func3, Try.ntmps3
  go_wp2_with fail
  refine hf1.mono ?_
  clear hf1
  rintro e w1 ⟨b1, p1, r1, rfl, t1, hl1⟩
  have hf2 := hf2 w1
  have H1 := hide (And.intro t1 hl1)
  clear t1 hl1
  go_wp2_with fail
  refine hf2.mono ?_
  clear hf2
  rintro e w2 ⟨b2, p2, r2, rfl, t2, hl2⟩
  have P1 : Pa w w2 k1 p1.h r1 b1 0 (fun j => TwO p1 r1 (.slice none 0 0) j ∨ j = b1) := ⟨p1, _, [], [], 0, 0, rfl, H1.out.1.then t2.grown, ⟨List.Perm.refl _, List.Pairwise.nil, H1.out.1.hds⟩, by simp, by simp, by simp, fun _ => Iff.rfl⟩
  have P2 : Pa w w2 k2 p2.h r2 b2 0 (fun j => TwO p2 r2 (.slice none 0 0) j ∨ j = b2) := ⟨p2, _, [], [], 0, 0, rfl, t2.down H1.out.1.grown, ⟨List.Perm.refl _, List.Pairwise.nil, t2.hds⟩, by simp, by simp, by simp, fun _ => Iff.rfl⟩
  have D12 : ∀ j, (TwO p1 r1 (.slice none 0 0) j ∨ j = b1) → ¬ (TwO p2 r2 (.slice none 0 0) j ∨ j = b2) := fun j e e2 => by
    have := H1.out.1.ltb j e
    have := hl2 j e2
    omega
  generalize (fun j => TwO p1 r1 (.slice none 0 0) j ∨ j = b1) = Sa at P1
  have HD : Hid (∃ S1 S2, Pa w w2 k1 p1.h r1 b1 0 S1 ∧ Pa w w2 k2 p2.h r2 b2 0 S2 ∧ ∀ j, S1 j → ¬ S2 j) := by
    refine ⟨(fun j => TwO p1 r1 (.slice none 0 0) j ∨ j = b1), (fun j => TwO p2 r2 (.slice none 0 0) j ∨ j = b2), ?_, P2, D12⟩
    exact ⟨p1, _, [], [], 0, 0, rfl, H1.out.1.then t2.grown, ⟨List.Perm.refl _, List.Pairwise.nil, H1.out.1.hds⟩, by simp, by simp, by simp, fun _ => Iff.rfl⟩
  clear P1 P2 D12 t2 hl2 H1
  generalize p1.h = h1 at *
  generalize p2.h = h2 at *
  obtain ⟨wA, hwA⟩ : ∃ wA, wA = w2.alloc (.cells #[.pointer (some ⟨h1, 0, none⟩), .pointer (some ⟨r1, 0, none⟩), .bool o1, .pointer (some ⟨h2, 0, none⟩), .pointer (some ⟨r2, 0, none⟩), .bool o2] 28) := ⟨_, rfl⟩
  obtain ⟨A, hA⟩ : ∃ A, A = w2.heap.size := ⟨_, rfl⟩
  have gA : w2.grownBy wA none := by rw [hwA]; exact World.grownBy_alloc w2 _ none
  have bA : wA.heap[A]? = some (.cells (paV h1 r1 k1 ++ paV h2 r2 k2).toArray 28 (0, 0)) := by rw [hwA, hA]; simp only [paV, ← HOO.out.1, ← HOO.out.2]; exact heap_alloc_new w2 _
  have HI0 : Hid (∃ S1 S2, Pa w wA k1 h1 r1 b1 0 S1 ∧ Pa w wA k2 h2 r2 b2 0 S2 ∧ (∀ j, S1 j → ¬ S2 j) ∧ ¬ S1 A ∧ ¬ S2 A ∧ wA.heap[A]? = some (.cells (paV h1 r1 k1 ++ paV h2 r2 k2).toArray 28 (0, 0))) := by
    obtain ⟨S1, S2, P1, P2, D⟩ := HD.out
    exact ⟨S1, S2, P1.then gA, P2.then gA, D, fun e => by have := P1.lt _ e; omega, fun e => by have := P2.lt _ e; omega, bA⟩
  clear HD gA bA
  have hfw := hfw wA
  have HWA := hide (And.intro hwA hA)
  clear hwA hA
  go_wp2_with fail
  rw [← HWA.out.1, ← HWA.out.2]
  refine hfw.mono ?_
  clear hfw
  rintro e wx ⟨rfl, hwx⟩
  obtain rfl := hwx.symm
  clear HWA
  go_wp2
  go_loopg [8] L (fun gq v wr => ∃ i : Nat, v = .int .i64 (i : Int) ∧ Hid (gq = L - i ∧ i ≤ L ∧ ∃ S1 S2, Pa w wr k1 h1 r1 b1 i S1 ∧ Pa w wr k2 h2 r2 b2 i S2 ∧ (∀ j, S1 j → ¬ S2 j) ∧ ¬ S1 A ∧ ¬ S2 A ∧ wr.heap[A]? = some (.cells (paV h1 r1 k1 ++ paV h2 r2 k2).toArray 28 (0, 0))))
  case atStart => exact ⟨0, rfl, by simp, Nat.zero_le _, HI0.out⟩
  case round =>
    obtain ⟨i, rfl, HR⟩ := hrel
    obtain ⟨S1, S2, P1, P2, D12, n1, n2, bA⟩ := HR.out.2.2
    have a0 := cell_row bA 0
    have a1 := cell_row bA 1
    have a2 := cell_row bA 2
    have a3 := cell_row bA 3
    have a4 := cell_row bA 4
    have a5 := cell_row bA 5
    simp only [paV, ← HOO.out.1, ← HOO.out.2] at a0 a1 a2 a3 a4 a5
    simp at a0 a1 a2 a3 a4 a5
    by_cases hlt : i < L
    · obtain ⟨o, hoi⟩ : ∃ o, os[i]? = some o := ⟨os[i]'(by rw [HO.out.1]; have := HO.out.2.2.2.1; omega), by simp⟩
      obtain ⟨blk, off, rfl, c1, c2, c3, c4⟩ := HO.out.2.1 i o hoi
      have hoo := HO.out.2.2.1 o (List.mem_of_getElem? hoi)
      have hblk : blk < w.heap.size := by
        unfold World.cell? at c1
        cases hq : w.heap[blk]? with
        | none => simp [hq] at c1
        | some ob => exact row_lt hq
      have hi300 : i < 300 := by have := HO.out.2.2.2.2; omega
      have b1' : ((i : Int) < (L : Int)) = True := by simp; omega
      have b3 : IntKind.i64.wrap ((i : Int) + 1) = (i : Int) + 1 := by rw [IntKind.wrap_i64]; omega
      have hgr := P1.grown
      have HC : Hid (∀ W : World, (W.heap[blk]? = w.heap[blk]?) → W.cell? ⟨blk, off + i * 4, none⟩ = some (.int .i64 o.K) ∧ W.cell? ⟨blk, off + i * 4 + 1, none⟩ = some (.int .i64 o.O) ∧ W.cell? ⟨blk, off + i * 4 + 2, none⟩ = some (.int .i64 o.N) ∧ W.cell? ⟨blk, off + i * 4 + 3, none⟩ = some (.int .i64 o.V)) := by
        intro W hW
        refine ⟨?_, ?_, ?_, ?_⟩
        · unfold World.cell? at c1 ⊢; simp only [hW]; exact c1
        · unfold World.cell? at c2 ⊢; simp only [hW]; exact c2
        · unfold World.cell? at c3 ⊢; simp only [hW]; exact c3
        · unfold World.cell? at c4 ⊢; simp only [hW]; exact c4
      have s2 := (HC.out wr (hgr.block blk hblk (by simp))).2.1
      clear c1 c2 c3 c4 hoi
      have HP : Hid (Pa w wr k1 h1 r1 b1 i S1 ∧ Pa w wr k2 h2 r2 b2 i S2 ∧ (∀ j, S1 j → ¬ S2 j) ∧ ¬ S1 A ∧ ¬ S2 A ∧ wr.heap[A]? = some (.cells (paV h1 r1 k1 ++ paV h2 r2 k2).toArray 28 (0, 0))) := ⟨P1, P2, D12, n1, n2, bA⟩
      have HB := hide (And.intro hblk (And.intro hi300 (And.intro hoo hlt)))
      clear P1 P2 D12 n1 n2 bA hgr hblk hi300 hoo hlt
      rcases bit_two o.O with hb | hb
      · have gq := World.grownBy_alloc wr (.cells #[.pointer (some ⟨h1, 0, none⟩), .pointer (some ⟨r1, 0, none⟩), .bool o1] 26) none
        have bq : (wr.alloc (.cells #[.pointer (some ⟨h1, 0, none⟩), .pointer (some ⟨r1, 0, none⟩), .bool o1] 26)).heap[wr.heap.size]? = some (.cells [Value.pointer (some ⟨h1, 0, none⟩), .pointer (some ⟨r1, 0, none⟩), .bool o1].toArray 26 (0, 0)) := heap_alloc_new wr _
        obtain ⟨b9, hb9⟩ : ∃ b9, b9 = wr.heap.size := ⟨_, rfl⟩
        obtain ⟨w9, hw9⟩ : ∃ w9, w9 = wr.alloc (.cells #[.pointer (some ⟨h1, 0, none⟩), .pointer (some ⟨r1, 0, none⟩), .bool o1] 26) := ⟨_, rfl⟩
        rw [← hb9, ← hw9] at bq
        rw [← hw9] at gq
        obtain ⟨P1, P2, D12, n1, n2, bA⟩ := HP.out
        have hblk9 : w9.heap[blk]? = w.heap[blk]? := (gq.block blk (Nat.lt_of_lt_of_le HB.out.1 P1.grown.size) (by simp)).trans (P1.grown.block blk HB.out.1 (by simp))
        obtain ⟨s1, s2', s3, s4⟩ := HC.out w9 hblk9
        have q1 := cell_row bq 0
        have q2 := cell_row bq 1
        have q3 := cell_row bq 2
        simp at q1 q2 q3
        have HStep : Hid (∀ W, w9.grownBy W none → Calls Try.prog 11 #[.agg #[.pointer (some ⟨h1, 0, none⟩), .pointer (some ⟨r1, 0, none⟩), .bool o1], .agg #[.int .i64 o.K, .int .i64 o.O, .int .i64 o.N, .int .i64 o.V]] W fun e w4 => e = .returned (.bool true) ∧ ∃ nx : Nat,
            ((w4.cell? ⟨blk, off + i * 4, none⟩ = some (.int .i64 o.K) ∧ w4.cell? ⟨blk, off + i * 4 + 1, none⟩ = some (.int .i64 o.O) ∧ w4.cell? ⟨blk, off + i * 4 + 2, none⟩ = some (.int .i64 o.N) ∧ w4.cell? ⟨blk, off + i * 4 + 3, none⟩ = some (.int .i64 o.V) ∧ w4.cell? ⟨b9, 0, none⟩ = some (.pointer (some ⟨h1, 0, none⟩)) ∧ w4.cell? ⟨b9, 1, none⟩ = some (.pointer (some ⟨r1, 0, none⟩)) ∧ w4.cell? ⟨b9, 2, none⟩ = some (.bool o1)) ∧ w4.cell? ⟨r1, 2, none⟩ = some (.int .i64 (nx : Int))) ∧ nx ≤ 301 ∧
            Hid (∃ S1 S2, Pa w w4 k1 h1 r1 b1 (i + 1) S1 ∧ Pa w w4 k2 h2 r2 b2 (i + 1) S2 ∧ (∀ j, S1 j → ¬ S2 j) ∧ ¬ S1 A ∧ ¬ S2 A ∧ w4.heap[A]? = some (.cells (paV h1 r1 k1 ++ paV h2 r2 k2).toArray 28 (0, 0)))) := by
          intro W hW
          have gW := grown_trans gq hW
          have hst := (P1.then gW).step HK.out.1 (by have := HB.out.2.1; omega) o HB.out.2.2.1
          have e0 : (paV h1 r1 k1).toArray = #[.pointer (some ⟨h1, 0, none⟩), .pointer (some ⟨r1, 0, none⟩), .bool o1] := by rw [HOO.out.1]; rfl
          rw [e0] at hst
          refine hst.mono ?_
          rintro e w4 ⟨rfl, S', Pn, hk4, hS'⟩
          obtain ⟨nx, hnx, hcx⟩ := Pn.next
          have hlt9 : ∀ j, S1 j → j < wr.heap.size := P1.lt
          have hAl : A < wr.heap.size := row_lt bA
          have bq4 := hk4.at ((hW.block b9 (row_lt bq) (by simp)).trans bq) (fun e => by have := hlt9 _ e; omega)
          have hbk4 : w4.heap[blk]? = w.heap[blk]? := (hk4.block blk (by have := P1.grown.size; have := gW.size; have := HB.out.1; omega) (fun e => by have := P1.low _ e; have := HB.out.1; omega)).trans ((hW.block blk (by have := P1.grown.size; have := gq.size; have := HB.out.1; omega) (by simp)).trans hblk9)
          obtain ⟨z1, z2, z3, z4⟩ := HC.out w4 hbk4
          have q1' := cell_row bq4 0
          have q2' := cell_row bq4 1
          have q3' := cell_row bq4 2
          simp at q1' q2' q3'
          have bA4 := hk4.at ((gW.block A hAl (by simp)).trans bA) n1
          refine ⟨rfl, nx, ⟨⟨z1, z2, z3, z4, q1', q2', q3'⟩, hcx⟩, by have := HB.out.2.1; omega, ?_⟩
          have Pd := ((P2.then gW).far hk4 (fun j e e2 => D12 j e2 e) Pn.grown).mono (show i ≤ i + 1 by omega)
          exact ⟨S', S2, Pn, Pd, fun j e e2 => (hS' j e).elim (fun e => D12 j e e2) (fun e => by have := P2.lt j e2; have := gW.size; omega), fun e => (hS' A e).elim n1 (fun e => by have := gW.size; omega), n2, bA4⟩
        have HGr := hide (grown_trans P1.grown gq)
        clear P1 P2 D12 n1 n2 bA hblk9 gq bq HP HC
        have HB9 := hide hb9
        go_upto_region 9 with fail
        rw [← hw9, ← hb9]
        clear hw9 hb9 hb a0 a1 a2 a3 a4 a5 s2
        obtain ⟨K, O, NN, V⟩ := o
        simp only at s1 s2' s3 s4 HStep
        have s2 := s2'
        refine wp_region_held_drew (S := (fun W => W.cell? ⟨blk, off + i * 4, none⟩ = some (.int .i64 K) ∧ W.cell? ⟨blk, off + i * 4 + 1, none⟩ = some (.int .i64 O) ∧ W.cell? ⟨blk, off + i * 4 + 2, none⟩ = some (.int .i64 NN) ∧ W.cell? ⟨blk, off + i * 4 + 3, none⟩ = some (.int .i64 V) ∧ W.cell? ⟨b9, 0, none⟩ = some (.pointer (some ⟨h1, 0, none⟩)) ∧ W.cell? ⟨b9, 1, none⟩ = some (.pointer (some ⟨r1, 0, none⟩)) ∧ W.cell? ⟨b9, 2, none⟩ = some (.bool o1))) (by kernel_rfl) ?_ (fun hHeld => ?_)
        · (exact ⟨s1, s2, s3, s4, q1, q2, q3⟩)
        refine wpAnyH_take (i := 0) (oi := { dst := some 41, op := Go.Op.load 26 (Go.Operand.tmp 9), type := 26, pos := "law.go:134", after := #[], guard := none }) (v := ?_) rfl (by kernel_rfl) (by kernel_rfl) (by kernel_rfl) (fun _ _ _ h => h) (Or.inl ⟨by rfl, ?_⟩) (by assumption) ?_
        rotate_left
        · (intro w hSw; (try dsimp only at hSw); (go_simp <;> with_reducible rfl))
        try simp only [Act.put, List.setIfInBounds_toArray, List.set_cons_zero, List.set_cons_succ]
        refine wpAnyH_take (i := 1) (oi := { dst := some 42, op := Go.Op.move (Go.Operand.tmp 2), type := 22, pos := "law.go:134", after := #[], guard := none }) (v := ?_) rfl (by kernel_rfl) (by kernel_rfl) (by kernel_rfl) (fun _ _ _ h => h) (Or.inl ⟨by rfl, ?_⟩) (by assumption) ?_
        rotate_left
        · (intro w hSw; (try dsimp only at hSw); (go_simp <;> with_reducible rfl))
        try simp only [Act.put, List.setIfInBounds_toArray, List.set_cons_zero, List.set_cons_succ]
        refine wpAnyH_take (i := 2) (oi := { dst := some 43, op := Go.Op.move (Go.Operand.tmp 8), type := 3, pos := "law.go:134", after := #[], guard := none }) (v := ?_) rfl (by kernel_rfl) (by kernel_rfl) (by kernel_rfl) (fun _ _ _ h => h) (Or.inl ⟨by rfl, ?_⟩) (by assumption) ?_
        rotate_left
        · (intro w hSw; (try dsimp only at hSw); (go_simp <;> with_reducible rfl))
        try simp only [Act.put, List.setIfInBounds_toArray, List.set_cons_zero, List.set_cons_succ]
        refine wpAnyH_take (i := 3) (oi := { dst := some 44, op := Go.Op.indexAddr 22 (Go.Operand.tmp 42) (Go.Operand.tmp 43), type := 0, pos := "law.go:134", after := #[{ on := 1, ground := Go.Ground.data }, { on := 2, ground := Go.Ground.data }], guard := none }) (v := ?_) rfl (by kernel_rfl) (by kernel_rfl) (by kernel_rfl) (fun _ _ _ h => h) (Or.inl ⟨by rfl, ?_⟩) (by assumption) ?_
        rotate_left
        · (intro w hSw; (try dsimp only at hSw); (go_simp <;> with_reducible rfl))
        try simp only [Act.put, List.setIfInBounds_toArray, List.set_cons_zero, List.set_cons_succ]
        refine wpAnyH_take (i := 4) (oi := { dst := some 45, op := Go.Op.load 31 (Go.Operand.tmp 44), type := 31, pos := "law.go:134", after := #[{ on := 3, ground := Go.Ground.data }], guard := none }) (v := ?_) rfl (by kernel_rfl) (by kernel_rfl) (by kernel_rfl) (fun _ _ _ h => h) (Or.inl ⟨by rfl, ?_⟩) (by assumption) ?_
        rotate_left
        · (intro w hSw; (try dsimp only at hSw); (go_simp <;> with_reducible rfl))
        try simp only [Act.put, List.setIfInBounds_toArray, List.set_cons_zero, List.set_cons_succ]
        refine wpAnyH_ready (rs := [5]) (by kernel_rfl) (by simp) ?_
        refine AllReadyH.cons (o := { dst := some 46, op := Go.Op.call { callee := Go.Callee.value (Go.Operand.func 11), args := #[Go.Operand.tmp 41, Go.Operand.tmp 45], argTypes := #[26, 31] }, type := 4, pos := "law.go:134", after := #[{ on := 0, ground := Go.Ground.data }, { on := 4, ground := Go.Ground.data }], guard := none }) rfl (fun K hK => ?_) ?_
        rotate_left
        · exact AllReadyH.nil
        go_simp
        refine (HStep.out _ (grown_drew _ _)).mono ?_
        rintro e4 w4 ⟨rfl, nx, hc4, hnx, HP4⟩
        go_wp2_with fail
        refine hK.out _ _ ?_ (fun hHeld => ?_)
        · ((try dsimp only); exact hc4.1)
        clear hK K
        try simp only [Act.put, List.setIfInBounds_toArray, List.set_cons_zero, List.set_cons_succ]
        have hw2 : IntKind.i64.wrap ((nx : Int) + 2) = (nx : Int) + 2 := by rw [IntKind.wrap_i64]; omega
        have hm1 := Int.emod_nonneg V (show ((nx + 2 : Nat) : Int) ≠ 0 by omega)
        have hm2 := Int.emod_lt_of_pos V (show (0 : Int) < ((nx + 2 : Nat) : Int) by omega)
        obtain ⟨mm, hmm⟩ : ∃ mm, mm = V % ((nx + 2 : Nat) : Int) := ⟨_, rfl⟩
        have hpk := fun W => pick_any V ((nx : Int) + 2) (nx + 2) W (by omega) (by omega) (by omega)
        rw [← hmm] at hm1 hm2 hpk
        have hw3 : IntKind.i64.wrap (mm - 1) = mm - 1 := by rw [IntKind.wrap_i64]; omega
        have hi64 : I64 (mm - 1) := by unfold I64; omega
        have HIs2 : Hid (∀ W xa, w4.grownBy W none → I64 xa → Calls Try.prog 12 #[.agg #[.pointer (some ⟨h1, 0, none⟩), .pointer (some ⟨r1, 0, none⟩), .bool o1], .int .i64 xa] W fun e w' => e = .returned (.bool true) ∧ W.grownBy w' none) := by
          intro W xa hW hx
          obtain ⟨S1, S2, P1, P2, -⟩ := HP4.out
          have := HIS.out w W k1 h1 r1 b1 (i + 1) _ (P1.then hW) HK.out.1 (by have := HB.out.2.1; omega) xa hx
          have e0 : (paV h1 r1 k1).toArray = #[.pointer (some ⟨h1, 0, none⟩), .pointer (some ⟨r1, 0, none⟩), .bool o1] := by rw [HOO.out.1]; rfl
          rw [e0] at this
          exact this
        have HC6 : Hid (∀ W, w4.grownBy W none → (fun W => (W.cell? ⟨blk, off + i * 4, none⟩ = some (.int .i64 K) ∧ W.cell? ⟨blk, off + i * 4 + 1, none⟩ = some (.int .i64 O) ∧ W.cell? ⟨blk, off + i * 4 + 2, none⟩ = some (.int .i64 NN) ∧ W.cell? ⟨blk, off + i * 4 + 3, none⟩ = some (.int .i64 V) ∧ W.cell? ⟨b9, 0, none⟩ = some (.pointer (some ⟨h1, 0, none⟩)) ∧ W.cell? ⟨b9, 1, none⟩ = some (.pointer (some ⟨r1, 0, none⟩)) ∧ W.cell? ⟨b9, 2, none⟩ = some (.bool o1)) ∧ W.cell? ⟨r1, 2, none⟩ = some (.int .i64 (nx : Int))) W) := by
          intro W g
          exact ⟨⟨g.cell hc4.1.1 (by simp), g.cell hc4.1.2.1 (by simp), g.cell hc4.1.2.2.1 (by simp), g.cell hc4.1.2.2.2.1 (by simp), g.cell hc4.1.2.2.2.2.1 (by simp), g.cell hc4.1.2.2.2.2.2.1 (by simp), g.cell hc4.1.2.2.2.2.2.2 (by simp)⟩, g.cell hc4.2 (by simp)⟩
        clear hm1 hm2 hmm
        refine wpAnyH_held (S2 := (fun W => (W.cell? ⟨blk, off + i * 4, none⟩ = some (.int .i64 K) ∧ W.cell? ⟨blk, off + i * 4 + 1, none⟩ = some (.int .i64 O) ∧ W.cell? ⟨blk, off + i * 4 + 2, none⟩ = some (.int .i64 NN) ∧ W.cell? ⟨blk, off + i * 4 + 3, none⟩ = some (.int .i64 V) ∧ W.cell? ⟨b9, 0, none⟩ = some (.pointer (some ⟨h1, 0, none⟩)) ∧ W.cell? ⟨b9, 1, none⟩ = some (.pointer (some ⟨r1, 0, none⟩)) ∧ W.cell? ⟨b9, 2, none⟩ = some (.bool o1)) ∧ W.cell? ⟨r1, 2, none⟩ = some (.int .i64 (nx : Int)))) (fun W h => h.1) _ _ _ _ ?_
        have hHeld2 : (fun W => (W.cell? ⟨blk, off + i * 4, none⟩ = some (.int .i64 K) ∧ W.cell? ⟨blk, off + i * 4 + 1, none⟩ = some (.int .i64 O) ∧ W.cell? ⟨blk, off + i * 4 + 2, none⟩ = some (.int .i64 NN) ∧ W.cell? ⟨blk, off + i * 4 + 3, none⟩ = some (.int .i64 V) ∧ W.cell? ⟨b9, 0, none⟩ = some (.pointer (some ⟨h1, 0, none⟩)) ∧ W.cell? ⟨b9, 1, none⟩ = some (.pointer (some ⟨r1, 0, none⟩)) ∧ W.cell? ⟨b9, 2, none⟩ = some (.bool o1)) ∧ W.cell? ⟨r1, 2, none⟩ = some (.int .i64 (nx : Int))) w4 := hc4
        refine wpAnyH_take (i := 6) (oi := { dst := some 47, op := Go.Op.unOp Go.UnOp.not 4 (Go.Operand.tmp 46), type := 4, pos := "law.go:134", after := #[{ on := 5, ground := Go.Ground.data }], guard := none }) (v := ?_) rfl (by kernel_rfl) (by kernel_rfl) (by kernel_rfl) (fun _ _ _ h => h) (Or.inl ⟨by rfl, ?_⟩) (by assumption) ?_
        rotate_left
        · (intro w hSw; (try dsimp only at hSw); (go_simp <;> with_reducible rfl))
        try simp only [Act.put, List.setIfInBounds_toArray, List.set_cons_zero, List.set_cons_succ]
        refine wpAnyH_take (i := 7) (oi := { dst := some 48, op := Go.Op.move (Go.Operand.tmp 47), type := 4, pos := "law.go:134", after := #[{ on := 6, ground := Go.Ground.data }, { on := 5, ground := Go.Ground.chain }], guard := none }) (v := ?_) rfl (by kernel_rfl) (by kernel_rfl) (by kernel_rfl) (fun _ _ _ h => h) (Or.inl ⟨by rfl, ?_⟩) (by assumption) ?_
        rotate_left
        · (intro w hSw; (try dsimp only at hSw); (go_simp <;> with_reducible rfl))
        try simp only [Act.put, List.setIfInBounds_toArray, List.set_cons_zero, List.set_cons_succ]
        refine wpAnyH_take (i := 8) (oi := { dst := some 49, op := Go.Op.load 26 (Go.Operand.tmp 9), type := 26, pos := "law.go:134", after := #[{ on := 7, ground := Go.Ground.guard }], guard := some (7, false) }) (v := ?_) rfl (by kernel_rfl) (by kernel_rfl) (by kernel_rfl) (fun _ _ _ h => h) (Or.inl ⟨by rfl, ?_⟩) (by assumption) ?_
        rotate_left
        · (intro w hSw; (try dsimp only at hSw); (go_simp <;> with_reducible rfl))
        try simp only [Act.put, List.setIfInBounds_toArray, List.set_cons_zero, List.set_cons_succ]
        refine wpAnyH_take (i := 9) (oi := { dst := some 50, op := Go.Op.move (Go.Operand.tmp 2), type := 22, pos := "law.go:134", after := #[{ on := 7, ground := Go.Ground.guard }], guard := some (7, false) }) (v := ?_) rfl (by kernel_rfl) (by kernel_rfl) (by kernel_rfl) (fun _ _ _ h => h) (Or.inl ⟨by rfl, ?_⟩) (by assumption) ?_
        rotate_left
        · (intro w hSw; (try dsimp only at hSw); (go_simp <;> with_reducible rfl))
        try simp only [Act.put, List.setIfInBounds_toArray, List.set_cons_zero, List.set_cons_succ]
        refine wpAnyH_take (i := 10) (oi := { dst := some 51, op := Go.Op.move (Go.Operand.tmp 8), type := 3, pos := "law.go:134", after := #[{ on := 7, ground := Go.Ground.guard }], guard := some (7, false) }) (v := ?_) rfl (by kernel_rfl) (by kernel_rfl) (by kernel_rfl) (fun _ _ _ h => h) (Or.inl ⟨by rfl, ?_⟩) (by assumption) ?_
        rotate_left
        · (intro w hSw; (try dsimp only at hSw); (go_simp <;> with_reducible rfl))
        try simp only [Act.put, List.setIfInBounds_toArray, List.set_cons_zero, List.set_cons_succ]
        refine wpAnyH_take (i := 11) (oi := { dst := some 52, op := Go.Op.indexAddr 22 (Go.Operand.tmp 50) (Go.Operand.tmp 51), type := 0, pos := "law.go:134", after := #[{ on := 9, ground := Go.Ground.data }, { on := 10, ground := Go.Ground.data }, { on := 7, ground := Go.Ground.guard }], guard := some (7, false) }) (v := ?_) rfl (by kernel_rfl) (by kernel_rfl) (by kernel_rfl) (fun _ _ _ h => h) (Or.inl ⟨by rfl, ?_⟩) (by assumption) ?_
        rotate_left
        · (intro w hSw; (try dsimp only at hSw); (go_simp <;> with_reducible rfl))
        try simp only [Act.put, List.setIfInBounds_toArray, List.set_cons_zero, List.set_cons_succ]
        refine wpAnyH_take (i := 12) (oi := { dst := some 53, op := Go.Op.fieldAddr 31 (Go.Operand.tmp 52) 3, type := 0, pos := "law.go:134", after := #[{ on := 11, ground := Go.Ground.data }, { on := 7, ground := Go.Ground.guard }], guard := some (7, false) }) (v := ?_) rfl (by kernel_rfl) (by kernel_rfl) (by kernel_rfl) (fun _ _ _ h => h) (Or.inl ⟨by rfl, ?_⟩) (by assumption) ?_
        rotate_left
        · (intro w hSw; (try dsimp only at hSw); (go_simp <;> with_reducible rfl))
        try simp only [Act.put, List.setIfInBounds_toArray, List.set_cons_zero, List.set_cons_succ]
        refine wpAnyH_take (i := 13) (oi := { dst := some 54, op := Go.Op.load 3 (Go.Operand.tmp 53), type := 3, pos := "law.go:134", after := #[{ on := 12, ground := Go.Ground.data }, { on := 7, ground := Go.Ground.guard }], guard := some (7, false) }) (v := ?_) rfl (by kernel_rfl) (by kernel_rfl) (by kernel_rfl) (fun _ _ _ h => h) (Or.inl ⟨by rfl, ?_⟩) (by assumption) ?_
        rotate_left
        · (intro w hSw; (try dsimp only at hSw); (go_simp <;> with_reducible rfl))
        try simp only [Act.put, List.setIfInBounds_toArray, List.set_cons_zero, List.set_cons_succ]
        refine wpAnyH_take (i := 14) (oi := { dst := some 55, op := Go.Op.fieldAddr 26 (Go.Operand.tmp 9) 1, type := 0, pos := "law.go:134", after := #[{ on := 7, ground := Go.Ground.guard }], guard := some (7, false) }) (v := ?_) rfl (by kernel_rfl) (by kernel_rfl) (by kernel_rfl) (fun _ _ _ h => h) (Or.inl ⟨by rfl, ?_⟩) (by assumption) ?_
        rotate_left
        · (intro w hSw; (try dsimp only at hSw); (go_simp <;> with_reducible rfl))
        try simp only [Act.put, List.setIfInBounds_toArray, List.set_cons_zero, List.set_cons_succ]
        refine wpAnyH_take (i := 15) (oi := { dst := some 56, op := Go.Op.load 24 (Go.Operand.tmp 55), type := 24, pos := "law.go:134", after := #[{ on := 14, ground := Go.Ground.data }, { on := 7, ground := Go.Ground.guard }], guard := some (7, false) }) (v := ?_) rfl (by kernel_rfl) (by kernel_rfl) (by kernel_rfl) (fun _ _ _ h => h) (Or.inl ⟨by rfl, ?_⟩) (by assumption) ?_
        rotate_left
        · (intro w hSw; (try dsimp only at hSw); (go_simp <;> with_reducible rfl))
        try simp only [Act.put, List.setIfInBounds_toArray, List.set_cons_zero, List.set_cons_succ]
        refine wpAnyH_take (i := 16) (oi := { dst := some 57, op := Go.Op.nilCheck (Go.Operand.tmp 56), type := 0, pos := "law.go:134", after := #[{ on := 15, ground := Go.Ground.data }, { on := 7, ground := Go.Ground.guard }], guard := some (7, false) }) (v := ?_) rfl (by kernel_rfl) (by kernel_rfl) (by kernel_rfl) (fun _ _ _ h => h) (Or.inl ⟨by rfl, ?_⟩) (by assumption) ?_
        rotate_left
        · (intro w hSw; (try dsimp only at hSw); (go_simp <;> with_reducible rfl))
        try simp only [Act.put, List.setIfInBounds_toArray, List.set_cons_zero, List.set_cons_succ]
        refine wpAnyH_take (i := 17) (oi := { dst := some 58, op := Go.Op.fieldAddr 37 (Go.Operand.tmp 57) 2, type := 0, pos := "law.go:134", after := #[{ on := 16, ground := Go.Ground.data }, { on := 7, ground := Go.Ground.guard }], guard := some (7, false) }) (v := ?_) rfl (by kernel_rfl) (by kernel_rfl) (by kernel_rfl) (fun _ _ _ h => h) (Or.inl ⟨by rfl, ?_⟩) (by assumption) ?_
        rotate_left
        · (intro w hSw; (try dsimp only at hSw); (go_simp <;> with_reducible rfl))
        try simp only [Act.put, List.setIfInBounds_toArray, List.set_cons_zero, List.set_cons_succ]
        refine wpAnyH_take (i := 18) (oi := { dst := some 59, op := Go.Op.load 3 (Go.Operand.tmp 58), type := 3, pos := "law.go:134", after := #[{ on := 17, ground := Go.Ground.data }, { on := 7, ground := Go.Ground.guard }], guard := some (7, false) }) (v := ?_) rfl (by kernel_rfl) (by kernel_rfl) (by kernel_rfl) (fun _ _ _ h => h) (Or.inl ⟨by rfl, ?_⟩) (by assumption) ?_
        rotate_left
        · (intro w hSw; (try dsimp only at hSw); (go_simp <;> with_reducible rfl))
        try simp only [Act.put, List.setIfInBounds_toArray, List.set_cons_zero, List.set_cons_succ]
        refine wpAnyH_take (i := 19) (oi := { dst := some 60, op := Go.Op.binOp Go.BinOp.add 3 (Go.Operand.tmp 59) (Go.Operand.const (Go.Value.int Go.IntKind.i64 2)) 3, type := 3, pos := "law.go:134", after := #[{ on := 18, ground := Go.Ground.data }, { on := 7, ground := Go.Ground.guard }], guard := some (7, false) }) (v := ?_) rfl (by kernel_rfl) (by kernel_rfl) (by kernel_rfl) (fun _ _ _ h => h) (Or.inl ⟨by rfl, ?_⟩) (by assumption) ?_
        rotate_left
        · (intro w hSw; (try dsimp only at hSw); (go_simp <;> with_reducible rfl))
        try simp only [Act.put, List.setIfInBounds_toArray, List.set_cons_zero, List.set_cons_succ]
        refine wpAnyH_ready (rs := [20]) (by kernel_rfl) (by simp) ?_
        refine AllReadyH.cons (o := { dst := some 61, op := Go.Op.call { callee := Go.Callee.value (Go.Operand.func 13), args := #[Go.Operand.tmp 54, Go.Operand.tmp 60], argTypes := #[3, 3] }, type := 3, pos := "law.go:134", after := #[{ on := 13, ground := Go.Ground.data }, { on := 19, ground := Go.Ground.data }, { on := 7, ground := Go.Ground.chain }, { on := 7, ground := Go.Ground.guard }], guard := some (7, false) }) rfl (fun K hK => ?_) ?_
        rotate_left
        · exact AllReadyH.nil
        go_simp
        refine (hpk _).mono ?_
        rintro e5 w5 ⟨rfl, hw5⟩
        obtain rfl := hw5.symm
        go_wp2_with fail
        refine hK.out _ _ ?_ (fun hHeld => ?_)
        · ((try dsimp only); exact hc4)
        clear hK K
        try simp only [Act.put, List.setIfInBounds_toArray, List.set_cons_zero, List.set_cons_succ]
        refine wpAnyH_take (i := 21) (oi := { dst := some 62, op := Go.Op.binOp Go.BinOp.sub 3 (Go.Operand.tmp 61) (Go.Operand.const (Go.Value.int Go.IntKind.i64 1)) 3, type := 3, pos := "law.go:134", after := #[{ on := 20, ground := Go.Ground.data }, { on := 7, ground := Go.Ground.guard }], guard := some (7, false) }) (v := ?_) rfl (by kernel_rfl) (by kernel_rfl) (by kernel_rfl) (fun _ _ _ h => h) (Or.inl ⟨by rfl, ?_⟩) (by assumption) ?_
        rotate_left
        · (intro w hSw; (try dsimp only at hSw); (go_simp <;> with_reducible rfl))
        try simp only [Act.put, List.setIfInBounds_toArray, List.set_cons_zero, List.set_cons_succ]
        refine wpAnyH_ready (rs := [22]) (by kernel_rfl) (by simp) ?_
        refine AllReadyH.cons (o := { dst := some 63, op := Go.Op.call { callee := Go.Callee.value (Go.Operand.func 12), args := #[Go.Operand.tmp 49, Go.Operand.tmp 62], argTypes := #[26, 3] }, type := 4, pos := "law.go:134", after := #[{ on := 8, ground := Go.Ground.data }, { on := 21, ground := Go.Ground.data }, { on := 20, ground := Go.Ground.chain }, { on := 7, ground := Go.Ground.guard }], guard := some (7, false) }) rfl (fun K hK => ?_) ?_
        rotate_left
        · exact AllReadyH.nil
        go_simp
        refine (HIs2.out w4 (mm - 1) (grown_refl _ _) hi64).mono ?_
        rintro e6 w6 ⟨rfl, g6⟩
        have g46 : w4.grownBy w6 none := g6
        have hc6 := HC6.out _ g46
        go_wp2_with fail
        refine hK.out _ _ ?_ (fun hHeld => ?_)
        · ((try dsimp only); exact hc6)
        clear hK K
        try simp only [Act.put, List.setIfInBounds_toArray, List.set_cons_zero, List.set_cons_succ]
        refine wpAnyH_take (i := 23) (oi := { dst := some 64, op := Go.Op.unOp Go.UnOp.not 4 (Go.Operand.tmp 63), type := 4, pos := "law.go:134", after := #[{ on := 22, ground := Go.Ground.data }, { on := 7, ground := Go.Ground.guard }], guard := some (7, false) }) (v := ?_) rfl (by kernel_rfl) (by kernel_rfl) (by kernel_rfl) (fun _ _ _ h => h) (Or.inl ⟨by rfl, ?_⟩) (by assumption) ?_
        rotate_left
        · (intro w hSw; (try dsimp only at hSw); (go_simp <;> with_reducible rfl))
        try simp only [Act.put, List.setIfInBounds_toArray, List.set_cons_zero, List.set_cons_succ]
        refine wpAnyH_take (i := 24) (oi := { dst := some 65, op := Go.Op.pick (Go.Operand.tmp 48) (Go.Operand.const (Go.Value.bool true)) (Go.Operand.tmp 64), type := 4, pos := "law.go:134", after := #[{ on := 7, ground := Go.Ground.data }, { on := 23, ground := Go.Ground.data }], guard := none }) (v := ?_) rfl (by kernel_rfl) (by kernel_rfl) (by kernel_rfl) (fun _ _ _ h => h) (Or.inl ⟨by rfl, ?_⟩) (by assumption) ?_
        rotate_left
        · (intro w hSw; (try dsimp only at hSw); (go_simp <;> with_reducible rfl))
        try simp only [Act.put, List.setIfInBounds_toArray, List.set_cons_zero, List.set_cons_succ]
        refine wpAnyH_done (by kernel_rfl) ?_ _
        have HE := hide g46
        clear hHeld hHeld2 hc4 hc6 g6 g46 HStep HIs2 HC6 s1 s2 s3 s4 q1 q2 q3
        go_wp2
        go_roundg (gk - 1)
        case rel =>
          refine ⟨i + 1, by simp, by have := HR.out.1; omega, by have := HB.out.2.2.2; omega, ?_⟩
          obtain ⟨S1, S2, P1, P2, D, n1, n2, bA⟩ := HP4.out
          exact ⟨S1, S2, P1.then HE.out, P2.then HE.out, D, n1, n2, (HE.out.block A (row_lt bA) (by simp)).trans bA⟩
        case measure => have := HR.out.1; have := HB.out.2.2.2; omega
      · have gq := World.grownBy_alloc wr (.cells #[.pointer (some ⟨h2, 0, none⟩), .pointer (some ⟨r2, 0, none⟩), .bool o2] 26) none
        have bq : (wr.alloc (.cells #[.pointer (some ⟨h2, 0, none⟩), .pointer (some ⟨r2, 0, none⟩), .bool o2] 26)).heap[wr.heap.size]? = some (.cells [Value.pointer (some ⟨h2, 0, none⟩), .pointer (some ⟨r2, 0, none⟩), .bool o2].toArray 26 (0, 0)) := heap_alloc_new wr _
        obtain ⟨b9, hb9⟩ : ∃ b9, b9 = wr.heap.size := ⟨_, rfl⟩
        obtain ⟨w9, hw9⟩ : ∃ w9, w9 = wr.alloc (.cells #[.pointer (some ⟨h2, 0, none⟩), .pointer (some ⟨r2, 0, none⟩), .bool o2] 26) := ⟨_, rfl⟩
        rw [← hb9, ← hw9] at bq
        rw [← hw9] at gq
        obtain ⟨P1, P2, D12, n1, n2, bA⟩ := HP.out
        have hblk9 : w9.heap[blk]? = w.heap[blk]? := (gq.block blk (Nat.lt_of_lt_of_le HB.out.1 P1.grown.size) (by simp)).trans (P1.grown.block blk HB.out.1 (by simp))
        obtain ⟨s1, s2', s3, s4⟩ := HC.out w9 hblk9
        have q1 := cell_row bq 0
        have q2 := cell_row bq 1
        have q3 := cell_row bq 2
        simp at q1 q2 q3
        have HStep : Hid (∀ W, w9.grownBy W none → Calls Try.prog 11 #[.agg #[.pointer (some ⟨h2, 0, none⟩), .pointer (some ⟨r2, 0, none⟩), .bool o2], .agg #[.int .i64 o.K, .int .i64 o.O, .int .i64 o.N, .int .i64 o.V]] W fun e w4 => e = .returned (.bool true) ∧ ∃ nx : Nat,
            ((w4.cell? ⟨blk, off + i * 4, none⟩ = some (.int .i64 o.K) ∧ w4.cell? ⟨blk, off + i * 4 + 1, none⟩ = some (.int .i64 o.O) ∧ w4.cell? ⟨blk, off + i * 4 + 2, none⟩ = some (.int .i64 o.N) ∧ w4.cell? ⟨blk, off + i * 4 + 3, none⟩ = some (.int .i64 o.V) ∧ w4.cell? ⟨b9, 0, none⟩ = some (.pointer (some ⟨h2, 0, none⟩)) ∧ w4.cell? ⟨b9, 1, none⟩ = some (.pointer (some ⟨r2, 0, none⟩)) ∧ w4.cell? ⟨b9, 2, none⟩ = some (.bool o2)) ∧ w4.cell? ⟨r2, 2, none⟩ = some (.int .i64 (nx : Int))) ∧ nx ≤ 301 ∧
            Hid (∃ S1 S2, Pa w w4 k1 h1 r1 b1 (i + 1) S1 ∧ Pa w w4 k2 h2 r2 b2 (i + 1) S2 ∧ (∀ j, S1 j → ¬ S2 j) ∧ ¬ S1 A ∧ ¬ S2 A ∧ w4.heap[A]? = some (.cells (paV h1 r1 k1 ++ paV h2 r2 k2).toArray 28 (0, 0)))) := by
          intro W hW
          have gW := grown_trans gq hW
          have hst := (P2.then gW).step HK.out.2 (by have := HB.out.2.1; omega) o HB.out.2.2.1
          have e0 : (paV h2 r2 k2).toArray = #[.pointer (some ⟨h2, 0, none⟩), .pointer (some ⟨r2, 0, none⟩), .bool o2] := by rw [HOO.out.2]; rfl
          rw [e0] at hst
          refine hst.mono ?_
          rintro e w4 ⟨rfl, S', Pn, hk4, hS'⟩
          obtain ⟨nx, hnx, hcx⟩ := Pn.next
          have hlt9 : ∀ j, S2 j → j < wr.heap.size := P2.lt
          have hAl : A < wr.heap.size := row_lt bA
          have bq4 := hk4.at ((hW.block b9 (row_lt bq) (by simp)).trans bq) (fun e => by have := hlt9 _ e; omega)
          have hbk4 : w4.heap[blk]? = w.heap[blk]? := (hk4.block blk (by have := P1.grown.size; have := gW.size; have := HB.out.1; omega) (fun e => by have := P2.low _ e; have := HB.out.1; omega)).trans ((hW.block blk (by have := P1.grown.size; have := gq.size; have := HB.out.1; omega) (by simp)).trans hblk9)
          obtain ⟨z1, z2, z3, z4⟩ := HC.out w4 hbk4
          have q1' := cell_row bq4 0
          have q2' := cell_row bq4 1
          have q3' := cell_row bq4 2
          simp at q1' q2' q3'
          have bA4 := hk4.at ((gW.block A hAl (by simp)).trans bA) n2
          refine ⟨rfl, nx, ⟨⟨z1, z2, z3, z4, q1', q2', q3'⟩, hcx⟩, by have := HB.out.2.1; omega, ?_⟩
          have Pd := ((P1.then gW).far hk4 (fun j e e2 => D12 j e e2) Pn.grown).mono (show i ≤ i + 1 by omega)
          exact ⟨S1, S', Pd, Pn, fun j e e2 => (hS' j e2).elim (fun e2 => D12 j e e2) (fun e2 => by have := P1.lt j e; have := gW.size; omega), n1, fun e => (hS' A e).elim n2 (fun e => by have := gW.size; omega), bA4⟩
        have HGr := hide (grown_trans P1.grown gq)
        clear P1 P2 D12 n1 n2 bA hblk9 gq bq HP HC
        have HB9 := hide hb9
        go_upto_region 9 with fail
        rw [← hw9, ← hb9]
        clear hw9 hb9 hb a0 a1 a2 a3 a4 a5 s2
        obtain ⟨K, O, NN, V⟩ := o
        simp only at s1 s2' s3 s4 HStep
        have s2 := s2'
        refine wp_region_held_drew (S := (fun W => W.cell? ⟨blk, off + i * 4, none⟩ = some (.int .i64 K) ∧ W.cell? ⟨blk, off + i * 4 + 1, none⟩ = some (.int .i64 O) ∧ W.cell? ⟨blk, off + i * 4 + 2, none⟩ = some (.int .i64 NN) ∧ W.cell? ⟨blk, off + i * 4 + 3, none⟩ = some (.int .i64 V) ∧ W.cell? ⟨b9, 0, none⟩ = some (.pointer (some ⟨h2, 0, none⟩)) ∧ W.cell? ⟨b9, 1, none⟩ = some (.pointer (some ⟨r2, 0, none⟩)) ∧ W.cell? ⟨b9, 2, none⟩ = some (.bool o2))) (by kernel_rfl) ?_ (fun hHeld => ?_)
        · (exact ⟨s1, s2, s3, s4, q1, q2, q3⟩)
        refine wpAnyH_take (i := 0) (oi := { dst := some 41, op := Go.Op.load 26 (Go.Operand.tmp 9), type := 26, pos := "law.go:134", after := #[], guard := none }) (v := ?_) rfl (by kernel_rfl) (by kernel_rfl) (by kernel_rfl) (fun _ _ _ h => h) (Or.inl ⟨by rfl, ?_⟩) (by assumption) ?_
        rotate_left
        · (intro w hSw; (try dsimp only at hSw); (go_simp <;> with_reducible rfl))
        try simp only [Act.put, List.setIfInBounds_toArray, List.set_cons_zero, List.set_cons_succ]
        refine wpAnyH_take (i := 1) (oi := { dst := some 42, op := Go.Op.move (Go.Operand.tmp 2), type := 22, pos := "law.go:134", after := #[], guard := none }) (v := ?_) rfl (by kernel_rfl) (by kernel_rfl) (by kernel_rfl) (fun _ _ _ h => h) (Or.inl ⟨by rfl, ?_⟩) (by assumption) ?_
        rotate_left
        · (intro w hSw; (try dsimp only at hSw); (go_simp <;> with_reducible rfl))
        try simp only [Act.put, List.setIfInBounds_toArray, List.set_cons_zero, List.set_cons_succ]
        refine wpAnyH_take (i := 2) (oi := { dst := some 43, op := Go.Op.move (Go.Operand.tmp 8), type := 3, pos := "law.go:134", after := #[], guard := none }) (v := ?_) rfl (by kernel_rfl) (by kernel_rfl) (by kernel_rfl) (fun _ _ _ h => h) (Or.inl ⟨by rfl, ?_⟩) (by assumption) ?_
        rotate_left
        · (intro w hSw; (try dsimp only at hSw); (go_simp <;> with_reducible rfl))
        try simp only [Act.put, List.setIfInBounds_toArray, List.set_cons_zero, List.set_cons_succ]
        refine wpAnyH_take (i := 3) (oi := { dst := some 44, op := Go.Op.indexAddr 22 (Go.Operand.tmp 42) (Go.Operand.tmp 43), type := 0, pos := "law.go:134", after := #[{ on := 1, ground := Go.Ground.data }, { on := 2, ground := Go.Ground.data }], guard := none }) (v := ?_) rfl (by kernel_rfl) (by kernel_rfl) (by kernel_rfl) (fun _ _ _ h => h) (Or.inl ⟨by rfl, ?_⟩) (by assumption) ?_
        rotate_left
        · (intro w hSw; (try dsimp only at hSw); (go_simp <;> with_reducible rfl))
        try simp only [Act.put, List.setIfInBounds_toArray, List.set_cons_zero, List.set_cons_succ]
        refine wpAnyH_take (i := 4) (oi := { dst := some 45, op := Go.Op.load 31 (Go.Operand.tmp 44), type := 31, pos := "law.go:134", after := #[{ on := 3, ground := Go.Ground.data }], guard := none }) (v := ?_) rfl (by kernel_rfl) (by kernel_rfl) (by kernel_rfl) (fun _ _ _ h => h) (Or.inl ⟨by rfl, ?_⟩) (by assumption) ?_
        rotate_left
        · (intro w hSw; (try dsimp only at hSw); (go_simp <;> with_reducible rfl))
        try simp only [Act.put, List.setIfInBounds_toArray, List.set_cons_zero, List.set_cons_succ]
        refine wpAnyH_ready (rs := [5]) (by kernel_rfl) (by simp) ?_
        refine AllReadyH.cons (o := { dst := some 46, op := Go.Op.call { callee := Go.Callee.value (Go.Operand.func 11), args := #[Go.Operand.tmp 41, Go.Operand.tmp 45], argTypes := #[26, 31] }, type := 4, pos := "law.go:134", after := #[{ on := 0, ground := Go.Ground.data }, { on := 4, ground := Go.Ground.data }], guard := none }) rfl (fun K hK => ?_) ?_
        rotate_left
        · exact AllReadyH.nil
        go_simp
        refine (HStep.out _ (grown_drew _ _)).mono ?_
        rintro e4 w4 ⟨rfl, nx, hc4, hnx, HP4⟩
        go_wp2_with fail
        refine hK.out _ _ ?_ (fun hHeld => ?_)
        · ((try dsimp only); exact hc4.1)
        clear hK K
        try simp only [Act.put, List.setIfInBounds_toArray, List.set_cons_zero, List.set_cons_succ]
        have hw2 : IntKind.i64.wrap ((nx : Int) + 2) = (nx : Int) + 2 := by rw [IntKind.wrap_i64]; omega
        have hm1 := Int.emod_nonneg V (show ((nx + 2 : Nat) : Int) ≠ 0 by omega)
        have hm2 := Int.emod_lt_of_pos V (show (0 : Int) < ((nx + 2 : Nat) : Int) by omega)
        obtain ⟨mm, hmm⟩ : ∃ mm, mm = V % ((nx + 2 : Nat) : Int) := ⟨_, rfl⟩
        have hpk := fun W => pick_any V ((nx : Int) + 2) (nx + 2) W (by omega) (by omega) (by omega)
        rw [← hmm] at hm1 hm2 hpk
        have hw3 : IntKind.i64.wrap (mm - 1) = mm - 1 := by rw [IntKind.wrap_i64]; omega
        have hi64 : I64 (mm - 1) := by unfold I64; omega
        have HIs2 : Hid (∀ W xa, w4.grownBy W none → I64 xa → Calls Try.prog 12 #[.agg #[.pointer (some ⟨h2, 0, none⟩), .pointer (some ⟨r2, 0, none⟩), .bool o2], .int .i64 xa] W fun e w' => e = .returned (.bool true) ∧ W.grownBy w' none) := by
          intro W xa hW hx
          obtain ⟨S1, S2, P1, P2, -⟩ := HP4.out
          have := HIS.out w W k2 h2 r2 b2 (i + 1) _ (P2.then hW) HK.out.2 (by have := HB.out.2.1; omega) xa hx
          have e0 : (paV h2 r2 k2).toArray = #[.pointer (some ⟨h2, 0, none⟩), .pointer (some ⟨r2, 0, none⟩), .bool o2] := by rw [HOO.out.2]; rfl
          rw [e0] at this
          exact this
        have HC6 : Hid (∀ W, w4.grownBy W none → (fun W => (W.cell? ⟨blk, off + i * 4, none⟩ = some (.int .i64 K) ∧ W.cell? ⟨blk, off + i * 4 + 1, none⟩ = some (.int .i64 O) ∧ W.cell? ⟨blk, off + i * 4 + 2, none⟩ = some (.int .i64 NN) ∧ W.cell? ⟨blk, off + i * 4 + 3, none⟩ = some (.int .i64 V) ∧ W.cell? ⟨b9, 0, none⟩ = some (.pointer (some ⟨h2, 0, none⟩)) ∧ W.cell? ⟨b9, 1, none⟩ = some (.pointer (some ⟨r2, 0, none⟩)) ∧ W.cell? ⟨b9, 2, none⟩ = some (.bool o2)) ∧ W.cell? ⟨r2, 2, none⟩ = some (.int .i64 (nx : Int))) W) := by
          intro W g
          exact ⟨⟨g.cell hc4.1.1 (by simp), g.cell hc4.1.2.1 (by simp), g.cell hc4.1.2.2.1 (by simp), g.cell hc4.1.2.2.2.1 (by simp), g.cell hc4.1.2.2.2.2.1 (by simp), g.cell hc4.1.2.2.2.2.2.1 (by simp), g.cell hc4.1.2.2.2.2.2.2 (by simp)⟩, g.cell hc4.2 (by simp)⟩
        clear hm1 hm2 hmm
        refine wpAnyH_held (S2 := (fun W => (W.cell? ⟨blk, off + i * 4, none⟩ = some (.int .i64 K) ∧ W.cell? ⟨blk, off + i * 4 + 1, none⟩ = some (.int .i64 O) ∧ W.cell? ⟨blk, off + i * 4 + 2, none⟩ = some (.int .i64 NN) ∧ W.cell? ⟨blk, off + i * 4 + 3, none⟩ = some (.int .i64 V) ∧ W.cell? ⟨b9, 0, none⟩ = some (.pointer (some ⟨h2, 0, none⟩)) ∧ W.cell? ⟨b9, 1, none⟩ = some (.pointer (some ⟨r2, 0, none⟩)) ∧ W.cell? ⟨b9, 2, none⟩ = some (.bool o2)) ∧ W.cell? ⟨r2, 2, none⟩ = some (.int .i64 (nx : Int)))) (fun W h => h.1) _ _ _ _ ?_
        have hHeld2 : (fun W => (W.cell? ⟨blk, off + i * 4, none⟩ = some (.int .i64 K) ∧ W.cell? ⟨blk, off + i * 4 + 1, none⟩ = some (.int .i64 O) ∧ W.cell? ⟨blk, off + i * 4 + 2, none⟩ = some (.int .i64 NN) ∧ W.cell? ⟨blk, off + i * 4 + 3, none⟩ = some (.int .i64 V) ∧ W.cell? ⟨b9, 0, none⟩ = some (.pointer (some ⟨h2, 0, none⟩)) ∧ W.cell? ⟨b9, 1, none⟩ = some (.pointer (some ⟨r2, 0, none⟩)) ∧ W.cell? ⟨b9, 2, none⟩ = some (.bool o2)) ∧ W.cell? ⟨r2, 2, none⟩ = some (.int .i64 (nx : Int))) w4 := hc4
        refine wpAnyH_take (i := 6) (oi := { dst := some 47, op := Go.Op.unOp Go.UnOp.not 4 (Go.Operand.tmp 46), type := 4, pos := "law.go:134", after := #[{ on := 5, ground := Go.Ground.data }], guard := none }) (v := ?_) rfl (by kernel_rfl) (by kernel_rfl) (by kernel_rfl) (fun _ _ _ h => h) (Or.inl ⟨by rfl, ?_⟩) (by assumption) ?_
        rotate_left
        · (intro w hSw; (try dsimp only at hSw); (go_simp <;> with_reducible rfl))
        try simp only [Act.put, List.setIfInBounds_toArray, List.set_cons_zero, List.set_cons_succ]
        refine wpAnyH_take (i := 7) (oi := { dst := some 48, op := Go.Op.move (Go.Operand.tmp 47), type := 4, pos := "law.go:134", after := #[{ on := 6, ground := Go.Ground.data }, { on := 5, ground := Go.Ground.chain }], guard := none }) (v := ?_) rfl (by kernel_rfl) (by kernel_rfl) (by kernel_rfl) (fun _ _ _ h => h) (Or.inl ⟨by rfl, ?_⟩) (by assumption) ?_
        rotate_left
        · (intro w hSw; (try dsimp only at hSw); (go_simp <;> with_reducible rfl))
        try simp only [Act.put, List.setIfInBounds_toArray, List.set_cons_zero, List.set_cons_succ]
        refine wpAnyH_take (i := 8) (oi := { dst := some 49, op := Go.Op.load 26 (Go.Operand.tmp 9), type := 26, pos := "law.go:134", after := #[{ on := 7, ground := Go.Ground.guard }], guard := some (7, false) }) (v := ?_) rfl (by kernel_rfl) (by kernel_rfl) (by kernel_rfl) (fun _ _ _ h => h) (Or.inl ⟨by rfl, ?_⟩) (by assumption) ?_
        rotate_left
        · (intro w hSw; (try dsimp only at hSw); (go_simp <;> with_reducible rfl))
        try simp only [Act.put, List.setIfInBounds_toArray, List.set_cons_zero, List.set_cons_succ]
        refine wpAnyH_take (i := 9) (oi := { dst := some 50, op := Go.Op.move (Go.Operand.tmp 2), type := 22, pos := "law.go:134", after := #[{ on := 7, ground := Go.Ground.guard }], guard := some (7, false) }) (v := ?_) rfl (by kernel_rfl) (by kernel_rfl) (by kernel_rfl) (fun _ _ _ h => h) (Or.inl ⟨by rfl, ?_⟩) (by assumption) ?_
        rotate_left
        · (intro w hSw; (try dsimp only at hSw); (go_simp <;> with_reducible rfl))
        try simp only [Act.put, List.setIfInBounds_toArray, List.set_cons_zero, List.set_cons_succ]
        refine wpAnyH_take (i := 10) (oi := { dst := some 51, op := Go.Op.move (Go.Operand.tmp 8), type := 3, pos := "law.go:134", after := #[{ on := 7, ground := Go.Ground.guard }], guard := some (7, false) }) (v := ?_) rfl (by kernel_rfl) (by kernel_rfl) (by kernel_rfl) (fun _ _ _ h => h) (Or.inl ⟨by rfl, ?_⟩) (by assumption) ?_
        rotate_left
        · (intro w hSw; (try dsimp only at hSw); (go_simp <;> with_reducible rfl))
        try simp only [Act.put, List.setIfInBounds_toArray, List.set_cons_zero, List.set_cons_succ]
        refine wpAnyH_take (i := 11) (oi := { dst := some 52, op := Go.Op.indexAddr 22 (Go.Operand.tmp 50) (Go.Operand.tmp 51), type := 0, pos := "law.go:134", after := #[{ on := 9, ground := Go.Ground.data }, { on := 10, ground := Go.Ground.data }, { on := 7, ground := Go.Ground.guard }], guard := some (7, false) }) (v := ?_) rfl (by kernel_rfl) (by kernel_rfl) (by kernel_rfl) (fun _ _ _ h => h) (Or.inl ⟨by rfl, ?_⟩) (by assumption) ?_
        rotate_left
        · (intro w hSw; (try dsimp only at hSw); (go_simp <;> with_reducible rfl))
        try simp only [Act.put, List.setIfInBounds_toArray, List.set_cons_zero, List.set_cons_succ]
        refine wpAnyH_take (i := 12) (oi := { dst := some 53, op := Go.Op.fieldAddr 31 (Go.Operand.tmp 52) 3, type := 0, pos := "law.go:134", after := #[{ on := 11, ground := Go.Ground.data }, { on := 7, ground := Go.Ground.guard }], guard := some (7, false) }) (v := ?_) rfl (by kernel_rfl) (by kernel_rfl) (by kernel_rfl) (fun _ _ _ h => h) (Or.inl ⟨by rfl, ?_⟩) (by assumption) ?_
        rotate_left
        · (intro w hSw; (try dsimp only at hSw); (go_simp <;> with_reducible rfl))
        try simp only [Act.put, List.setIfInBounds_toArray, List.set_cons_zero, List.set_cons_succ]
        refine wpAnyH_take (i := 13) (oi := { dst := some 54, op := Go.Op.load 3 (Go.Operand.tmp 53), type := 3, pos := "law.go:134", after := #[{ on := 12, ground := Go.Ground.data }, { on := 7, ground := Go.Ground.guard }], guard := some (7, false) }) (v := ?_) rfl (by kernel_rfl) (by kernel_rfl) (by kernel_rfl) (fun _ _ _ h => h) (Or.inl ⟨by rfl, ?_⟩) (by assumption) ?_
        rotate_left
        · (intro w hSw; (try dsimp only at hSw); (go_simp <;> with_reducible rfl))
        try simp only [Act.put, List.setIfInBounds_toArray, List.set_cons_zero, List.set_cons_succ]
        refine wpAnyH_take (i := 14) (oi := { dst := some 55, op := Go.Op.fieldAddr 26 (Go.Operand.tmp 9) 1, type := 0, pos := "law.go:134", after := #[{ on := 7, ground := Go.Ground.guard }], guard := some (7, false) }) (v := ?_) rfl (by kernel_rfl) (by kernel_rfl) (by kernel_rfl) (fun _ _ _ h => h) (Or.inl ⟨by rfl, ?_⟩) (by assumption) ?_
        rotate_left
        · (intro w hSw; (try dsimp only at hSw); (go_simp <;> with_reducible rfl))
        try simp only [Act.put, List.setIfInBounds_toArray, List.set_cons_zero, List.set_cons_succ]
        refine wpAnyH_take (i := 15) (oi := { dst := some 56, op := Go.Op.load 24 (Go.Operand.tmp 55), type := 24, pos := "law.go:134", after := #[{ on := 14, ground := Go.Ground.data }, { on := 7, ground := Go.Ground.guard }], guard := some (7, false) }) (v := ?_) rfl (by kernel_rfl) (by kernel_rfl) (by kernel_rfl) (fun _ _ _ h => h) (Or.inl ⟨by rfl, ?_⟩) (by assumption) ?_
        rotate_left
        · (intro w hSw; (try dsimp only at hSw); (go_simp <;> with_reducible rfl))
        try simp only [Act.put, List.setIfInBounds_toArray, List.set_cons_zero, List.set_cons_succ]
        refine wpAnyH_take (i := 16) (oi := { dst := some 57, op := Go.Op.nilCheck (Go.Operand.tmp 56), type := 0, pos := "law.go:134", after := #[{ on := 15, ground := Go.Ground.data }, { on := 7, ground := Go.Ground.guard }], guard := some (7, false) }) (v := ?_) rfl (by kernel_rfl) (by kernel_rfl) (by kernel_rfl) (fun _ _ _ h => h) (Or.inl ⟨by rfl, ?_⟩) (by assumption) ?_
        rotate_left
        · (intro w hSw; (try dsimp only at hSw); (go_simp <;> with_reducible rfl))
        try simp only [Act.put, List.setIfInBounds_toArray, List.set_cons_zero, List.set_cons_succ]
        refine wpAnyH_take (i := 17) (oi := { dst := some 58, op := Go.Op.fieldAddr 37 (Go.Operand.tmp 57) 2, type := 0, pos := "law.go:134", after := #[{ on := 16, ground := Go.Ground.data }, { on := 7, ground := Go.Ground.guard }], guard := some (7, false) }) (v := ?_) rfl (by kernel_rfl) (by kernel_rfl) (by kernel_rfl) (fun _ _ _ h => h) (Or.inl ⟨by rfl, ?_⟩) (by assumption) ?_
        rotate_left
        · (intro w hSw; (try dsimp only at hSw); (go_simp <;> with_reducible rfl))
        try simp only [Act.put, List.setIfInBounds_toArray, List.set_cons_zero, List.set_cons_succ]
        refine wpAnyH_take (i := 18) (oi := { dst := some 59, op := Go.Op.load 3 (Go.Operand.tmp 58), type := 3, pos := "law.go:134", after := #[{ on := 17, ground := Go.Ground.data }, { on := 7, ground := Go.Ground.guard }], guard := some (7, false) }) (v := ?_) rfl (by kernel_rfl) (by kernel_rfl) (by kernel_rfl) (fun _ _ _ h => h) (Or.inl ⟨by rfl, ?_⟩) (by assumption) ?_
        rotate_left
        · (intro w hSw; (try dsimp only at hSw); (go_simp <;> with_reducible rfl))
        try simp only [Act.put, List.setIfInBounds_toArray, List.set_cons_zero, List.set_cons_succ]
        refine wpAnyH_take (i := 19) (oi := { dst := some 60, op := Go.Op.binOp Go.BinOp.add 3 (Go.Operand.tmp 59) (Go.Operand.const (Go.Value.int Go.IntKind.i64 2)) 3, type := 3, pos := "law.go:134", after := #[{ on := 18, ground := Go.Ground.data }, { on := 7, ground := Go.Ground.guard }], guard := some (7, false) }) (v := ?_) rfl (by kernel_rfl) (by kernel_rfl) (by kernel_rfl) (fun _ _ _ h => h) (Or.inl ⟨by rfl, ?_⟩) (by assumption) ?_
        rotate_left
        · (intro w hSw; (try dsimp only at hSw); (go_simp <;> with_reducible rfl))
        try simp only [Act.put, List.setIfInBounds_toArray, List.set_cons_zero, List.set_cons_succ]
        refine wpAnyH_ready (rs := [20]) (by kernel_rfl) (by simp) ?_
        refine AllReadyH.cons (o := { dst := some 61, op := Go.Op.call { callee := Go.Callee.value (Go.Operand.func 13), args := #[Go.Operand.tmp 54, Go.Operand.tmp 60], argTypes := #[3, 3] }, type := 3, pos := "law.go:134", after := #[{ on := 13, ground := Go.Ground.data }, { on := 19, ground := Go.Ground.data }, { on := 7, ground := Go.Ground.chain }, { on := 7, ground := Go.Ground.guard }], guard := some (7, false) }) rfl (fun K hK => ?_) ?_
        rotate_left
        · exact AllReadyH.nil
        go_simp
        refine (hpk _).mono ?_
        rintro e5 w5 ⟨rfl, hw5⟩
        obtain rfl := hw5.symm
        go_wp2_with fail
        refine hK.out _ _ ?_ (fun hHeld => ?_)
        · ((try dsimp only); exact hc4)
        clear hK K
        try simp only [Act.put, List.setIfInBounds_toArray, List.set_cons_zero, List.set_cons_succ]
        refine wpAnyH_take (i := 21) (oi := { dst := some 62, op := Go.Op.binOp Go.BinOp.sub 3 (Go.Operand.tmp 61) (Go.Operand.const (Go.Value.int Go.IntKind.i64 1)) 3, type := 3, pos := "law.go:134", after := #[{ on := 20, ground := Go.Ground.data }, { on := 7, ground := Go.Ground.guard }], guard := some (7, false) }) (v := ?_) rfl (by kernel_rfl) (by kernel_rfl) (by kernel_rfl) (fun _ _ _ h => h) (Or.inl ⟨by rfl, ?_⟩) (by assumption) ?_
        rotate_left
        · (intro w hSw; (try dsimp only at hSw); (go_simp <;> with_reducible rfl))
        try simp only [Act.put, List.setIfInBounds_toArray, List.set_cons_zero, List.set_cons_succ]
        refine wpAnyH_ready (rs := [22]) (by kernel_rfl) (by simp) ?_
        refine AllReadyH.cons (o := { dst := some 63, op := Go.Op.call { callee := Go.Callee.value (Go.Operand.func 12), args := #[Go.Operand.tmp 49, Go.Operand.tmp 62], argTypes := #[26, 3] }, type := 4, pos := "law.go:134", after := #[{ on := 8, ground := Go.Ground.data }, { on := 21, ground := Go.Ground.data }, { on := 20, ground := Go.Ground.chain }, { on := 7, ground := Go.Ground.guard }], guard := some (7, false) }) rfl (fun K hK => ?_) ?_
        rotate_left
        · exact AllReadyH.nil
        go_simp
        refine (HIs2.out w4 (mm - 1) (grown_refl _ _) hi64).mono ?_
        rintro e6 w6 ⟨rfl, g6⟩
        have g46 : w4.grownBy w6 none := g6
        have hc6 := HC6.out _ g46
        go_wp2_with fail
        refine hK.out _ _ ?_ (fun hHeld => ?_)
        · ((try dsimp only); exact hc6)
        clear hK K
        try simp only [Act.put, List.setIfInBounds_toArray, List.set_cons_zero, List.set_cons_succ]
        refine wpAnyH_take (i := 23) (oi := { dst := some 64, op := Go.Op.unOp Go.UnOp.not 4 (Go.Operand.tmp 63), type := 4, pos := "law.go:134", after := #[{ on := 22, ground := Go.Ground.data }, { on := 7, ground := Go.Ground.guard }], guard := some (7, false) }) (v := ?_) rfl (by kernel_rfl) (by kernel_rfl) (by kernel_rfl) (fun _ _ _ h => h) (Or.inl ⟨by rfl, ?_⟩) (by assumption) ?_
        rotate_left
        · (intro w hSw; (try dsimp only at hSw); (go_simp <;> with_reducible rfl))
        try simp only [Act.put, List.setIfInBounds_toArray, List.set_cons_zero, List.set_cons_succ]
        refine wpAnyH_take (i := 24) (oi := { dst := some 65, op := Go.Op.pick (Go.Operand.tmp 48) (Go.Operand.const (Go.Value.bool true)) (Go.Operand.tmp 64), type := 4, pos := "law.go:134", after := #[{ on := 7, ground := Go.Ground.data }, { on := 23, ground := Go.Ground.data }], guard := none }) (v := ?_) rfl (by kernel_rfl) (by kernel_rfl) (by kernel_rfl) (fun _ _ _ h => h) (Or.inl ⟨by rfl, ?_⟩) (by assumption) ?_
        rotate_left
        · (intro w hSw; (try dsimp only at hSw); (go_simp <;> with_reducible rfl))
        try simp only [Act.put, List.setIfInBounds_toArray, List.set_cons_zero, List.set_cons_succ]
        refine wpAnyH_done (by kernel_rfl) ?_ _
        have HE := hide g46
        clear hHeld hHeld2 hc4 hc6 g6 g46 HStep HIs2 HC6 s1 s2 s3 s4 q1 q2 q3
        go_wp2
        go_roundg (gk - 1)
        case rel =>
          refine ⟨i + 1, by simp, by have := HR.out.1; omega, by have := HB.out.2.2.2; omega, ?_⟩
          obtain ⟨S1, S2, P1, P2, D, n1, n2, bA⟩ := HP4.out
          exact ⟨S1, S2, P1.then HE.out, P2.then HE.out, D, n1, n2, (HE.out.block A (row_lt bA) (by simp)).trans bA⟩
        case measure => have := HR.out.1; have := HB.out.2.2.2; omega
    · have b1' : ((i : Int) < (L : Int)) = False := by simp; omega
      have hi1 := HIS.out w wr k1 h1 r1 b1 i S1 P1 HK.out.1 (by have := HR.out.2.1; have := HO.out.2.2.2.2; omega) 0 (by unfold I64; omega)
      have e1 : (paV h1 r1 k1).toArray = #[.pointer (some ⟨h1, 0, none⟩), .pointer (some ⟨r1, 0, none⟩), .bool o1] := by rw [HOO.out.1]; rfl
      have e2 : (paV h2 r2 k2).toArray = #[.pointer (some ⟨h2, 0, none⟩), .pointer (some ⟨r2, 0, none⟩), .bool o2] := by rw [HOO.out.2]; rfl
      rw [e1] at hi1
      have hi2 : Hid (∀ W, wr.grownBy W none → Calls Try.prog 12 #[.agg #[.pointer (some ⟨h2, 0, none⟩), .pointer (some ⟨r2, 0, none⟩), .bool o2], .int .i64 0] W fun e w' => e = .returned (.bool true) ∧ W.grownBy w' none) := by
        intro W hW
        have := HIS.out w W k2 h2 r2 b2 i S2 (P2.then hW) HK.out.2 (by have := HR.out.2.1; have := HO.out.2.2.2.2; omega) 0 (by unfold I64; omega)
        rw [e2] at this
        exact this
      have HG := hide P1.grown
      clear hlt P1 P2 D12 n1 n2 bA e1 e2 HIS
      go_wp2_with fail
      refine hi1.mono ?_
      clear hi1
      rintro e wa ⟨rfl, ga⟩
      have x3 := ga.cell a3 (by simp)
      have x4 := ga.cell a4 (by simp)
      have x5 := ga.cell a5 (by simp)
      have hi2 := hi2.out wa ga
      have Ha := hide ga
      clear a0 a1 a2 a3 a4 a5 ga
      go_wp2_with fail
      refine hi2.mono ?_
      clear hi2
      rintro e wb ⟨rfl, gb⟩
      have haw := awake_any wb
      have Hb := hide gb
      clear gb x3 x4 x5
      go_wp2_with fail
      refine haw.mono ?_
      clear haw
      rintro e wd ⟨rfl, gd⟩
      have Hd := hide gd
      clear gd
      go_wp2
      go_ret
      exact ⟨rfl, grown_trans HG.out (grown_trans Ha.out (grown_trans Hb.out Hd.out))⟩
end Go.Proofs.Ytkbhjdjdjfdikaa
