/- Texts joined: TuF, KCopy, SlKe. -/
import Derived.Test.YtonokaelbpfjnabGreatDoorJkAc
import Derived.Test.YtonokaelbpfjnabGreatDoorJkAa
import Derived.Test.YtonokaelbpfjnabGreatDoorJkAo
import Derived.Test.YtonokaelbpfjnabGreatDoorJkAq
import Derived.Test.YtonokaelbpfjnabGreatDoorJkAn
import Derived.Test.YtonokaelbpfjnabGreatDoorJkAk
import Derived.Test.YtonokaelbpfjnabGreatDoorJkAi
/- fill. -/
namespace Go.Proofs.YtonokaelbpfjnabGreatDoor
open Go.RowKit Ap
attribute [local go_sem ↓] Go.wp_at_zero Go.wp_at_succ
/-- One byte of fill. -/
def fb (x i : Int) : Int := wrap64 (wrap64 (x * 7) + wrap64 (i * wrap64 (x.tmod 3 + 1))) % 256
theorem fb_byte (x i : Int) : 0 ≤ fb x i ∧ fb x i < 256 := by unfold fb; omega
def fillN (x : Int) (n : Nat) : List Nat := (List.range n).map fun (i : Nat) => (fb x (i : Int)).toNat
theorem fillN_length (x : Int) (n : Nat) : (fillN x n).length = n := by simp [fillN]
theorem fillN_bytes (x : Int) (n : Nat) : Bytes (fillN x n) := by
  intro y hy
  unfold fillN at hy
  obtain ⟨i, _, rfl⟩ := List.mem_map.1 hy
  have := fb_byte x i
  omega
/-- The row on the way. -/
def frow (x : Int) (n j : Nat) : List Value := bv (fillN x j) ++ bv (zs (n - j))
theorem frow_length (x : Int) (n j : Nat) (h : j ≤ n) : (frow x n j).length = n := by simp [frow, bv, fillN_length, zs]; omega
theorem frow_zero (x : Int) (n : Nat) : frow x n 0 = bv (zs n) := by simp [frow, fillN, bv]
theorem frow_end (x : Int) (n : Nat) : frow x n n = bv (fillN x n) := by simp [frow, zs, bv]
theorem frow_get (x : Int) (n j : Nat) (h : j < n) : (frow x n j)[j]? = some (.int .u8 0) := by
  have hl : (bv (fillN x j)).length = j := by simp [bv, fillN_length]
  unfold frow
  rw [List.getElem?_append_right (by omega), hl, Nat.sub_self]
  unfold bv zs
  rw [List.getElem?_map, List.getElem?_replicate, if_pos (by omega)]
  rfl
theorem frow_set (x : Int) (n j : Nat) (h : j < n) : (frow x n j).set j (.int .u8 (fb x (j : Int))) = frow x n (j + 1) := by
  have e : n - j = (n - (j + 1)) + 1 := by omega
  have hb := fb_byte x j
  have hl : (bv (fillN x j)).length = j := by simp [bv, fillN_length]
  unfold frow
  rw [List.set_append_right _ _ (by omega), hl, Nat.sub_self, e]
  have e2 : fillN x (j + 1) = fillN x j ++ [(fb x (j : Int)).toNat] := by simp [fillN, List.range_succ]
  have e3 : (((fb x (j : Int)).toNat : Nat) : Int) = fb x j := by omega
  rw [e2]
  simp [bv, zs, List.replicate_succ, e3]
set_option maxHeartbeats 2000000 in
theorem fill_any (x : Int) (n : Nat) (hn : n ≤ 65536) (w : World) : Calls Tryz.prog 7 #[.int .i64 x, .int .i64 (n : Int)] w fun e w' => e = .returned (.slice (some ⟨w.heap.size, 0, none⟩) n n) ∧ w'.heap[w.heap.size]? = some (.cells (bv (fillN x n)).toArray 5 (0, 0)) ∧ w.grownBy w' none := by
  have hmk : ∀ w, (Instr.makeSlice 39 (.int .i64 (n : Int)) (.int .i64 (n : Int))).run Tryz.prog w = .ok (.slice (some ⟨w.heap.size, 0, none⟩) n n) (w.alloc (.cells (bv (zs n)).toArray 5)) := make_bytes n (by omega)
  have b1 := heap_alloc_new w (.cells (bv (zs n)).toArray 5)
  have H1 := hide (And.intro b1 (World.grownBy_alloc w (.cells (bv (zs n)).toArray 5) none))
  clear b1
  go_enter Tryz.func7, Tryz.ntmps7
  go_wp2
  generalize w.alloc (.cells (bv (zs n)).toArray 5) = w1 at *
  generalize hB : w.heap.size = B at *
  have HB := hide hB
  clear hB hmk
  go_loopg [6] n (fun k i wr => ∃ j : Nat, k + j = n ∧ i = .int .i64 (j : Int) ∧ wr.heap[B]? = some (.cells (frow x n j).toArray 5 (0, 0)) ∧ w.grownBy wr none)
  case atStart => exact ⟨0, by omega, rfl, by rw [frow_zero]; exact H1.out.1, H1.out.2⟩
  case round =>
    obtain ⟨j, hkj, rfl, hb, hg⟩ := hrel
    by_cases hk : 0 < gk
    · have hj0 : (0 : Int) ≤ (j : Int) := by omega
      have hj1 : (j : Int) < (n : Int) := by omega
      have hc : wr.cell? ⟨B, j, none⟩ = some (.int .u8 0) := by rw [cell_row hb, frow_get x n j (by omega)]
      have hf := free_row hb j
      have H2 : Hid ((wr.setCell ⟨B, j, none⟩ (.int .u8 (fb x (j : Int)))).heap[B]? = some (.cells (frow x n (j + 1)).toArray 5 (0, 0)) ∧ w.grownBy (wr.setCell ⟨B, j, none⟩ (.int .u8 (fb x (j : Int)))) none) := by
        have := row_setCell hb j (.int .u8 (fb x (j : Int)))
        rw [frow_set x n j (by omega)] at this
        exact ⟨this, grown_then hg (grown_setCell wr B j _) (fun i e => by cases e; exact Or.inl (by have := HB.out; omega))⟩
      clear hb hg
      go_wp2
      go_roundg (gk - 1)
      case measure => omega
      case rel => exact ⟨j + 1, by omega, by go_num, H2.out.1, H2.out.2⟩
    · have hj : j = n := by omega
      subst hj
      rw [frow_end] at hb
      have H2 := hide (And.intro hb hg)
      clear hb hg
      go_wp2
      go_ret
      rw [HB.out]
      exact ⟨rfl, H2.out.1, H2.out.2⟩
end Go.Proofs.YtonokaelbpfjnabGreatDoor
/- The contracts of CopyBytes and SameBytes, on rows of bytes. -/
namespace Go.Proofs.YtonokaelbpfjnabGreatDoor.Ap
open Go.RowKit
attribute [local go_sem ↓] Go.wp_at_zero Go.wp_at_succ

set_option maxHeartbeats 400000 in
theorem copy_any (ao : Option Addr) (n cap : Nat) (xs : List Nat) (w : World) (hn : xs.length = n) (hat : At w ao xs) (hnil : ao = none → n = 0 ∧ cap = 0) (hb : n ≤ 140737488355328) :
    Calls Tryz.prog 11 #[.slice ao n cap] w fun e w' => ∃ v, e = .returned v ∧ w'.ownsRow w.heap.size 5 1 v n (bv xs) ∧ w.grownBy w' none := by
  have Hn := hide hn
  clear hn
  go_enter Tryz.func11, Tryz.ntmps11
  go_wp2_with (at_builtin; refine wpList_append_at rfl (.tmp 4) (.tmp 5) rfl w.heap.size (.slice none 0 0) 0 [] rfl (World.ownsRow_nil _ _ _ _) ao n cap xs rfl Hn.out hat hnil (by omega) (Nat.le_refl _) ?_)
  intro v' w' hown hg
  obtain ⟨ao', cap', rfl, hr⟩ := own_at hown
  clear hr
  go_wp2
  go_ret
  exact ⟨_, rfl, by simpa using hown, grown_then (grown_refl w none) hg (fun k e => by cases e)⟩

set_option maxHeartbeats 1000000 in
theorem sameBytes_eq (ao bo : Option Addr) (n c d : Nat) (xs : List Nat) (w : World) (hn : xs.length = n) (ha : At w ao xs) (hb : At w bo xs) (hm : n ≤ 4611686018427387904) :
    Calls Tryz.prog 13 #[.slice ao n c, .slice bo n d] w fun e w' => e = .returned (.bool true) ∧ w.grownBy w' none := by
  have HA := hide (And.intro hn (And.intro ha hb))
  clear hn ha hb
  go_enter Tryz.func13, Tryz.ntmps13
  go_wp2
  go_loopg [5] n (fun k i wr => ∃ j : Nat, k + j = n ∧ i = .int .i64 j ∧ w.grownBy wr none)
  case atStart => exact ⟨0, by omega, rfl, grown_refl _ _⟩
  case round =>
    obtain ⟨j, hkj, rfl, hg⟩ := hrel
    by_cases hk : 0 < gk
    · obtain ⟨hn, ha, hb⟩ := HA.out
      have hj : j < xs.length := by omega
      obtain ⟨a, rfl, hca⟩ := ha j xs[j] (by simp [hj])
      obtain ⟨b, rfl, hcb⟩ := hb j xs[j] (by simp [hj])
      have hca' := hg.cell hca (by simp)
      have hcb' := hg.cell hcb (by simp)
      have h1 : (0 : Int) ≤ (j : Int) := by omega
      have h2 : (j : Int) < (n : Int) := by omega
      generalize xs[j] = x at *
      clear hn ha hb hca hcb hj
      go_wp2
      go_region_held3 (fun w' => w'.cell? (a.add j) = some (.int .u8 (x : Int)) ∧ w'.cell? (b.add j) = some (.int .u8 (x : Int))) (go_keep) (fail)
      go_wp2
      go_roundg (gk - 1)
      case measure => omega
      case rel => exact ⟨j + 1, by omega, by go_num, grown_trans hg (grown_drew _ _)⟩
    · have hj : j = n := by omega
      subst hj
      go_wp2
      go_ret
      exact ⟨rfl, hg⟩
end Go.Proofs.YtonokaelbpfjnabGreatDoor.Ap
/- SlotsKeeps: the walk. -/
namespace Go.Proofs.YtonokaelbpfjnabGreatDoor
open Go.RowKit Ap
attribute [local go_sem ↓] Go.wp_at_zero Go.wp_at_succ
/-- Rows of bytes that are not the device's were written: slots, regions and device stay. -/
theorem BoP.overR {w0 w w' : World} {X b sl ra rb Fa Fb C : Nat} {s : Dv} {k : Dk} {D : List Nat} {S : Nat → Prop} (h : BoP w0 w X b sl ra rb Fa Fb C s k D []) (hk : Kept w w' S) (hS : ∀ i, S i → ¬ (k.own i ∨ i = b) ∧ w0.heap.size ≤ i ∧ ∃ cs fr, w.heap[i]? = some (.cells cs 5 fr)) : BoP w0 w' X b sl ra rb Fa Fb C s k D [] := by
  obtain ⟨c, r, hb⟩ := h.box
  have hn : ∀ {i t : Nat} {cs : Array Value} {fr : Nat × Nat}, w.heap[i]? = some (.cells cs t fr) → t ≠ 5 → ¬ S i := fun hi ht e => by
    obtain ⟨_, _, c2, f2, h2⟩ := hS _ e
    rw [hi] at h2
    simp at h2
    exact ht h2.2.1
  refine ⟨⟨c, r, hk.at hb (hn hb (by decide))⟩, h.dev.away hk (fun i hi => ?_), h.hra.kept hk (hn h.hra.head (by decide)), h.hrb.kept hk (hn h.hrb.head (by decide)), ⟨hk.at h.hsl.head (hn h.hsl.head (by decide))⟩⟩
  obtain ⟨h1, h2, _⟩ := hS i hi
  refine ⟨?_, fun e => h1 (.inr e), h2⟩
  rintro (e | ⟨x, hx, _⟩)
  · exact h1 (.inl e)
  · cases hx
theorem fill_ex (x : Int) (n : Nat) (hn : n ≤ 65536) (w : World) : Calls Tryz.prog 7 #[.int .i64 x, .int .i64 (n : Int)] w fun e w' => ∃ g, e = .returned (.slice (some ⟨g, 0, none⟩) n n) ∧ w.heap.size ≤ g ∧ w'.heap[g]? = some (.cells (bv (fillN x n)).toArray 5 (0, 0)) ∧ w.grownBy w' none := by
  refine (fill_any x n hn w).mono ?_
  rintro e w' ⟨rfl, h1, h2⟩
  exact ⟨_, rfl, Nat.le_refl _, h1, h2⟩
/-- What is written of a header. -/
def outH (h : Fm.Hd) : List Int := if h.May then h.out else []
theorem outH_len (h : Fm.Hd) : (outH h).length ≤ 32 := by
  unfold outH
  split
  · rw [h.out_length]; exact Nat.le_refl _
  · simp
theorem header_own (h : Fm.Hd) (ho : h.Ok) (w : World) (hT : Fm.Cr.Tab w) (hw : 0 < w.heap.size) : Calls Tryz.prog 12 #[Fm.hdV h] w fun r w' => ∃ v c, r = .returned (.tuple #[v, .int .i64 c]) ∧ w'.ownsRow w.heap.size 5 1 v (outH h).length ((outH h).map (Value.int .u8)) ∧ w.grownBy w' none := by
  by_cases hm : h.May
  · rw [show outH h = h.out from if_pos hm]
    refine (Fm.header_any h ho hm w hT hw).mono ?_
    rintro r w' ⟨g, rfl, h1, h2, h3⟩
    rw [h.out_length]
    exact ⟨_, _, rfl, own_of_row h2 (by rw [List.length_map, h.out_length]) h1 (by unfold maxLen; omega), h3⟩
  · rw [show outH h = [] from if_neg hm]
    refine (Fm.header_bad h hm w).mono ?_
    rintro r w' ⟨rfl, h3⟩
    exact ⟨_, _, rfl, ⟨rfl, .inl ⟨rfl, rfl⟩⟩, h3⟩
/-- Behind the first save. -/
def T1 (ys : List Nat) : List Nat := svT (zs 640) 64 0 (nxH hd0 1 ys) ys
theorem found_first {ys : List Nat} (hb : Bytes ys) (hl : ys.length ≤ 192) : Found (T1 ys) 64 0 5 4 (nxH hd0 1 ys, some ys, 0) := by
  have ho := nxH_ok (h := hd0) (cov := 1) (xs := ys) hd0_ok (by decide) (by decide) (by decide) hb (by omega)
  have ha : Holds (T1 ys) 64 0 (nxH hd0 1 ys) ys := holds_saved (n := 10) (by decide) (zs_len 640) (by omega) ho.1 ho.2 rfl rfl
  have hbl : Blank (T1 ys) 64 5 := Blank.other (n := 10) (C := 4) (blank_zero 640 64 5 (by decide) (by decide)) (by decide) (zs_len 640) (by omega) (by omega) (by decide) (.inl (by decide))
  exact found_a (by decide) ha (by omega) hbl
/-- A row of its own stays, where other blocks were written. -/
theorem own_keptK {w w' : World} {S : Nat → Prop} {B n : Nat} {v : Value} {xs : List Value} (h : w.ownsRow B 5 1 v n xs) (hk : Kept w w' S) (hS : ∀ i, v.ownBlock = some i → ¬ S i) : w'.ownsRow B 5 1 v n xs :=
  own_keptT (T := S) h ⟨hk.os, hk.tape, hk.output, hk.size, hk.block⟩ hS
theorem own_lo {w : World} {B B' n : Nat} {v : Value} {xs : List Value} (h : w.ownsRow B 5 1 v n xs) (hb : B' ≤ B) : w.ownsRow B' 5 1 v n xs := ⟨h.1, h.2.elim Or.inl (fun ⟨g, cap, cur, a, b0, c⟩ => Or.inr ⟨g, cap, cur, a, Nat.le_trans hb b0, c⟩)⟩
theorem own_grow {w w' : World} {B n : Nat} {v : Value} {xs : List Value} (h : w.ownsRow B 5 1 v n xs) (hg : w.grownBy w' none) : w'.ownsRow B 5 1 v n xs := h.kept hg (by cases hv : v.ownBlock with | none => exact Or.inl rfl | some k => exact Or.inr (by simp))
theorem own_cells {w : World} {B n : Nat} {v : Value} {xs : List Value} (h : w.ownsRow B 5 1 v n xs) {i : Nat} (hi : v.ownBlock = some i) : B ≤ i ∧ ∃ cs, w.heap[i]? = some (.cells cs 5 (0, 0)) := by
  rcases h.2 with ⟨rfl, _⟩ | ⟨g, cap, cur, rfl, hb, hg, _⟩
  · cases hi
  · have e : some g = some i := hi
    cases e
    exact ⟨hb, cur, hg⟩
theorem box_at {w w' : World} {g : Nat} {o : Obj} (h : w.heap[g]? = some o) (hg : w.grownBy w' none) : w'.heap[g]? = some o := (hg.block _ (row_lt h) (by simp)).trans h
/-- In the midst of the law: the slots, the header's box. -/
structure KeS (w w1 wr : World) (hd : Fm.Hd) (X b sl ra rb c : Nat) (k : Dk) (T : List Nat) : Prop where
  bo : BoP w1 wr X b sl ra rb 0 5 4 (frD c) k T []
  box : wr.heap[w.heap.size]? = some (.cells [Value.int .u64 hd.g, .int .u64 hd.c, .int .i64 hd.n, .int .u32 hd.s].toArray 25 (0, 0))
section
variable {w w1 wr wr' : World} {hd : Fm.Hd} {X b sl ra rb c c' : Nat} {k : Dk} {T : List Nat}
theorem KeS.grown (h : KeS w w1 wr hd X b sl ra rb c k T) (hg : wr.grownBy wr' none) : KeS w w1 wr' hd X b sl ra rb c k T := ⟨h.bo.grown hg, (hg.block _ (row_lt h.box) (by simp)).trans h.box⟩
theorem KeS.moved (h : KeS w w1 wr hd X b sl ra rb c k T) (hb : BoP w1 wr' X b sl ra rb 0 5 4 (frD c') k T []) (hk : Kept wr wr' (fun i => k.own i ∨ i = b)) : KeS w w1 wr' hd X b sl ra rb c' k T := ⟨hb, hk.at h.box (h.bo.far35 h.box)⟩
theorem KeS.rows {S : Nat → Prop} (h : KeS w w1 wr hd X b sl ra rb c k T) (hk : Kept wr wr' S) (hS : ∀ i, S i → ¬ (k.own i ∨ i = b) ∧ w1.heap.size ≤ i ∧ ∃ cs fr, wr.heap[i]? = some (.cells cs 5 fr)) : KeS w w1 wr' hd X b sl ra rb c k T := ⟨h.bo.overR hk hS, hk.at h.box (fun e => by
  obtain ⟨_, _, c2, f2, h2⟩ := hS _ e
  rw [h.box] at h2
  simp at h2)⟩
end
set_option maxRecDepth 100000 in
set_option maxHeartbeats 64000000 in
theorem keeps_any (n : Int) (hd : Fm.Hd) (ho : hd.Ok) (w : World) (hT : Fm.Cr.Tab w) : Calls Tryz.prog 3 #[.int .i64 n, Fm.hdV hd] w fun e w' => e = .returned (.bool true) ∧ w.grownBy w' none := by
  have g0 := World.grownBy_alloc w (.cells #[.int .u64 hd.g, .int .u64 hd.c, .int .i64 hd.n, .int .u32 hd.s] 25) none
  have b0 := heap_alloc_new w (.cells [Value.int .u64 hd.g, .int .u64 hd.c, .int .i64 hd.n, .int .u32 hd.s].toArray 25)
  have qa := awake_any (w.alloc (.cells #[.int .u64 hd.g, .int .u64 hd.c, .int .i64 hd.n, .int .u32 hd.s] 25)) (hT.grown g0)
  have HT := hide (And.intro hT ho)
  have H0 := hide (And.intro g0 b0)
  clear g0 b0 hT ho
  unfold Fm.hdV
  go_enter Tryz.func3, Tryz.ntmps3
  go_wp2_with fail
  generalize w.alloc (.cells #[.int .u64 hd.g, .int .u64 hd.c, .int .i64 hd.n, .int .u32 hd.s] 25) = w0 at *
  refine qa.mono ?_
  clear qa
  rintro e w1 ⟨rfl, hg⟩
  have H1 := hide (And.intro (grown_trans H0.out.1 hg) ((hg.block _ (row_lt H0.out.2) (by simp)).trans H0.out.2))
  have HT1 := hide (HT.out.1.grown H1.out.1)
  clear hg H0
  go_wp2_with fail
  refine (made_zero w1).mono ?_
  rintro e w2 ⟨X, b, sl, ra, rb, k, rfl, hB, g2⟩
  have hB : BoP w1 w2 X b sl ra rb 0 5 4 (frD 0) k (zs 640) [] := hB
  have hA : BoP w1 w2.drew X b sl ra rb 0 5 4 (frD 0) k (zs 640) [] := hB.grown (grown_drew w2 none)
  have hbx : w2.drew.heap[w.heap.size]? = some (.cells [Value.int .u64 hd.g, .int .u64 hd.c, .int .i64 hd.n, .int .u32 hd.s].toArray 25 (0, 0)) := (g2.block _ (row_lt H1.out.2) (by simp)).trans H1.out.2
  have HBX := hide hbx
  obtain ⟨-, x1⟩ := hB.cell
  obtain ⟨-, x1d⟩ := hA.cell
  clear hB g2 hbx
  have HBy : Hid (∀ w5, BoP w1 w5 X b sl ra rb 0 5 4 (frD 0) k (zs 640) [] → Calls Tryz.prog 9 #[.pointer (some ⟨sl, 0, none⟩)] w5 fun e w' => e = .returned (.int .i64 192) ∧ w5.grownBy w' none) := fun w5 h => sBytes_at (BoP.hsl h) (BoP.dev h) (BoP.hra h) (by decide) (by decide) (by decide)
  obtain ⟨p, hp⟩ : ∃ p, p = (n % ((193 : Nat) : Int)).toNat := ⟨_, rfl⟩
  have hp2 : p ≤ 192 := by have := Int.emod_lt_of_pos n (show (0 : Int) < ((193 : Nat) : Int) by decide); have := Int.emod_nonneg n (show ((193 : Nat) : Int) ≠ 0 by decide); omega
  have HPk : Hid (∀ w5, Calls Tryz.prog 8 #[.int .i64 n, .int .i64 193] w5 fun e w' => e = .returned (.int .i64 (p : Int)) ∧ w' = w5) := fun w5 => by rw [hp]; exact pick_nat n 193 (by decide) (by decide) w5
  clear hp
  have HFi : Hid (∀ w5, Calls Tryz.prog 7 #[.int .i64 n, .int .i64 (p : Int)] w5 fun e w' => ∃ g, e = .returned (.slice (some ⟨g, 0, none⟩) p p) ∧ w5.heap.size ≤ g ∧ w'.heap[g]? = some (.cells (bv (fillN n p)).toArray 5 (0, 0)) ∧ w5.grownBy w' none) := fun w5 => fill_ex n p (by omega) w5
  have hyl := fillN_length n p
  have hyb := fillN_bytes n p
  generalize fillN n p = ys at *
  have HY := hide (And.intro hyl (And.intro hyb hp2))
  have HSv : Hid (∀ w6 g, BoP w1 w6 X b sl ra rb 0 5 4 (frD 0) k (zs 640) [] → w6.heap[g]? = some (.cells (bv ys).toArray 5 (0, 0)) → ¬ (k.own g ∨ g = b) → Calls Tryz.prog 6 #[.pointer (some ⟨sl, 0, none⟩), .slice (some ⟨g, 0, none⟩) p p, .int .u64 1] w6 fun e w' => ∃ v k' c', e = .returned v ∧ c' ≤ 18 ∧ BoP w1 w' X b sl ra rb 0 5 4 (frD c') k' (T1 ys) [] ∧ Kept w6 w' (fun i => k.own i ∨ i = b)) := by
    intro w6 g h hr hn
    refine (saveF (c := 0) (k := k) h found0 (zs_len 640) (by decide) (by decide) (by decide) (by decide) HT1.out (bytes_zs 640) (some ⟨g, 0, none⟩) p p ys HY.out.1 (at_row hr) (Nat.le_refl _) HY.out.2.2 HY.out.2.1 (fun a e => by cases e; exact ⟨row_lt hr, fun _ => ⟨fun e => hn (.inl e), fun e => hn (.inr e)⟩⟩) 1 (by decide) (by decide) (by decide)).mono ?_
    rintro e w7 ⟨k7, c7, rfl, hc7, hB7, hm7⟩
    exact ⟨_, k7, c7, rfl, by omega, hB7, hm7.kept⟩
  have w193 : IntKind.i64.wrap 193 = 193 := rfl
  clear hyl hyb hp2
  go_wp2_with fail
  go_region_held3 (fun w' => w'.cell? ⟨X, 1, none⟩ = some (.pointer (some ⟨sl, 0, none⟩)))
    (first | with_reducible assumption | exact x1d)
    ((first
      | (go_at_call 9; refine (HBy.out _ hA).mono ?_; rintro e w5 ⟨rfl, hg5⟩; have hJ5 := BoP.grown hA hg5; have hX5 := box_at HBX.out hg5; have hK5 := hJ5.cell.2)
      | (go_at_call 8; refine (HPk.out _).mono ?_; rintro e wp ⟨rfl, rfl⟩)
      | (go_at_call 7; refine (HFi.out _).mono ?_; rintro e w6 ⟨g, rfl, hlo, hrow, hg6⟩; have hJ6 := BoP.grown hJ5 hg6; have hgn := new_off (BoP.dev hJ5) hlo; have hX6 := box_at hX5 hg6; have hK6 := hJ6.cell.2)
      | (go_at_call 6; have hq := HSv.out w6 g hJ6 hrow hgn; refine hq.mono ?_; clear hq; rintro e w7 ⟨v7, k7, c7, rfl, hc7, hB7, hm7⟩; have hK7 := hB7.cell.2)))
  have S7 : Hid (KeS w w1 w7 hd X b sl ra rb c7 k7 (T1 ys)) := ⟨hB7, hm7.at hX6 (hJ6.far35 hX6)⟩
  have HC7 := hide hc7
  rename_i hHeld
  clear hHeld hK7 hB7 hm7 hX6 hJ6 hgn hK6 hrow hlo hg6 hK5 hX5 hJ5 hg5 hA x1 x1d w193 HBy HPk HFi HSv hc7 HBX
  have HL : Hid (∀ wq c, KeS w w1 wq hd X b sl ra rb c k7 (T1 ys) → c ≤ 6000 → Calls Tryz.prog 10 #[.pointer (some ⟨sl, 0, none⟩)] wq fun e w' => ∃ g c', e = .returned (.tuple #[Fm.hdV (nxH hd0 1 ys), .slice (some ⟨g, 0, none⟩) p p, .int .i64 0, .int .i64 0]) ∧ c' ≤ c + 6 ∧ KeS w w1 w' hd X b sl ra rb c' k7 (T1 ys) ∧ Kept wq w' (fun i => k7.own i ∨ i = b) ∧ wq.heap.size ≤ g ∧ w'.heap[g]? = some (.cells (bv ys).toArray 5 (0, 0))) := by
    intro wq c h hc
    refine (loadF h.bo (found_first HY.out.2.1 (by rw [HY.out.1]; exact HY.out.2.2)) (by decide) (by decide) (by decide) (by omega) HT1.out (bytes_svT (bytes_zs _) HY.out.2.1)).mono ?_
    rintro e w' ⟨v, c', rfl, hc', hB, hk, hy⟩
    obtain ⟨g, rfl, h1, h2⟩ := hy ys rfl
    exact ⟨g, c', by rw [HY.out.1], by omega, h.moved hB hk, hk, h1, h2⟩
  generalize nxH hd0 1 ys = nh at *
  unfold Fm.hdV at HL
  have x1 := S7.out.bo.cell.2
  go_wp2_with fail
  refine (HL.out w7 c7 S7.out (by have := HC7.out; omega)).mono ?_
  clear x1
  rintro e w8 ⟨g1, c8, rfl, hc8, hS8, hk8, hg1, hr1⟩
  have N1 := hide (new_off S7.out.bo.dev hg1)
  have L1 := hide (Nat.le_trans S7.out.bo.dev.disk.grown.size hg1)
  have g9 := World.grownBy_alloc w8 (.cells #[.int .u64 nh.g, .int .u64 nh.c, .int .i64 nh.n, .int .u32 nh.s] 25) none
  have S9 := hide (And.intro (hS8.grown g9) (box_at hr1 g9))
  have HC9 : Hid (c8 ≤ 24) := by unfold Hid; have := HC7.out; omega
  clear hc8 hS8 hk8 hg1 hr1 g9 S7 HC7
  have x1 := S9.out.1.bo.cell.2
  go_wp2_with fail
  generalize w8.alloc (.cells #[.int .u64 nh.g, .int .u64 nh.c, .int .i64 nh.n, .int .u32 nh.s] 25) = w9 at *
  refine (HL.out w9 c8 S9.out.1 (by have := HC9.out; omega)).mono ?_
  clear x1
  rintro e w10 ⟨g2, c10, rfl, hc10, hS10, hk10, hg2, hr2⟩
  have N2 := hide (new_off S9.out.1.bo.dev hg2)
  have L2 : Hid (g1 < g2) := Nat.lt_of_lt_of_le (row_lt S9.out.2) hg2
  have g11 := World.grownBy_alloc w10 (.cells #[.int .u64 nh.g, .int .u64 nh.c, .int .i64 nh.n, .int .u32 nh.s] 25) none
  have S11 := hide (And.intro (hS10.grown g11) (And.intro (box_at (hk10.at S9.out.2 N1.out) g11) (box_at hr2 g11)))
  have HC11 : Hid (c10 ≤ 30) := by unfold Hid; have := HC9.out; omega
  clear hc10 hS10 hk10 hg2 hr2 g11 S9 HC9
  go_wp2_with fail
  generalize w10.alloc (.cells #[.int .u64 nh.g, .int .u64 nh.c, .int .i64 nh.n, .int .u32 nh.s] 25) = w11 at *
  refine (Ap.copy_any (some ⟨g1, 0, none⟩) p p ys w11 HY.out.1 (at_row S11.out.2.1) (fun e => by cases e) (by have := HY.out.2.2; omega)).mono ?_
  rintro e w12 ⟨vw, rfl, how, g12⟩
  obtain ⟨aw, cw, rfl, -⟩ := Ap.own_at how
  have W12 : Hid (w12.ownsRow w11.heap.size 5 1 (.slice aw p cw) p (bv ys)) := how
  have NW : Hid (∀ i, (Value.slice aw p cw).ownBlock = some i → ¬ (k7.own i ∨ i = b) ∧ w11.heap.size ≤ i ∧ i < w12.heap.size) := fun i hi => ⟨new_off S11.out.1.bo.dev (how.lt i hi).1, (how.lt i hi).1, (how.lt i hi).2⟩
  have Z12 := hide g12.size
  have LW : Hid (g2 < w11.heap.size) := row_lt S11.out.2.2
  have S12 := hide (And.intro (S11.out.1.grown g12) (And.intro (box_at S11.out.2.1 g12) (box_at S11.out.2.2 g12)))
  clear how g12 S11
  have HG : Hid (∀ wq c, KeS w w1 wq hd X b sl ra rb c k7 (T1 ys) → w.grownBy wq none) := fun wq c h => grown_trans H1.out.1 h.bo.dev.disk.grown
  have HH : Hid (∀ wq c, KeS w w1 wq hd X b sl ra rb c k7 (T1 ys) → Calls Tryz.prog 12 #[Fm.hdV hd] wq fun r w' => ∃ v c, r = .returned (.tuple #[v, .int .i64 c]) ∧ w'.ownsRow wq.heap.size 5 1 v (outH hd).length ((outH hd).map (Value.int .u8)) ∧ wq.grownBy w' none) := fun wq c h => header_own hd HT.out.2 wq (HT.out.1.grown (HG.out wq c h)) (Nat.lt_of_le_of_lt (Nat.zero_le _) (row_lt h.box))
  have HLn := hide (outH_len hd)
  generalize outH hd = O at *
  obtain ⟨LO, hLO⟩ : ∃ L, O.length = L := ⟨_, rfl⟩
  rw [hLO] at HH HLn
  have HLO := hide hLO
  clear hLO
  unfold Fm.hdV at HH
  obtain ⟨y0, y1, y2, y3⟩ := Fm.box4 S12.out.1.box
  go_wp2_with fail
  refine (HH.out w12 _ S12.out.1).mono ?_
  clear y0 y1 y2 y3
  rintro e w13 ⟨vc, ec, rfl, hoc, g13⟩
  obtain ⟨ac, cc, rfl, -⟩ := Fm.own_at hoc
  have C13 := hide hoc
  have S13 := hide (And.intro (S12.out.1.grown g13) (And.intro (box_at S12.out.2.1 g13) (And.intro (box_at S12.out.2.2 g13) (own_grow W12.out g13))))
  have Z13 := hide g13.size
  clear hoc g13 W12
  obtain ⟨y0, y1, y2, y3⟩ := Fm.box4 S13.out.1.box
  go_wp2_with fail
  refine (HH.out w13 _ S13.out.1).mono ?_
  clear y0 y1 y2 y3
  rintro e w14 ⟨vd, ed, rfl, hod, g14⟩
  obtain ⟨ad, cd, rfl, -⟩ := Fm.own_at hod
  have S14 : Hid (KeS w w1 w14 hd X b sl ra rb c10 k7 (T1 ys) ∧ w14.heap[g1]? = some (.cells (bv ys).toArray 5 (0, 0)) ∧ w14.heap[g2]? = some (.cells (bv ys).toArray 5 (0, 0)) ∧ w14.ownsRow w11.heap.size 5 1 (.slice aw p cw) p (bv ys) ∧ w14.ownsRow w12.heap.size 5 1 (.slice ac LO cc) LO (O.map (Value.int .u8)) ∧ w14.ownsRow w13.heap.size 5 1 (.slice ad LO cd) LO (O.map (Value.int .u8))) := ⟨S13.out.1.grown g14, box_at S13.out.2.1 g14, box_at S13.out.2.2.1 g14, own_grow S13.out.2.2.2 g14, own_grow C13.out g14, hod⟩
  have NC : Hid (∀ i, (Value.slice ac LO cc).ownBlock = some i → ¬ (k7.own i ∨ i = b) ∧ w12.heap.size ≤ i ∧ i < w13.heap.size) := fun i hi => ⟨new_off S12.out.1.bo.dev (C13.out.lt i hi).1, (C13.out.lt i hi).1, (C13.out.lt i hi).2⟩
  have ND : Hid (∀ i, (Value.slice ad LO cd).ownBlock = some i → ¬ (k7.own i ∨ i = b) ∧ w13.heap.size ≤ i ∧ i < w14.heap.size) := fun i hi => ⟨new_off S13.out.1.bo.dev (hod.lt i hi).1, (hod.lt i hi).1, (hod.lt i hi).2⟩
  have Z14 : Hid (w1.heap.size ≤ w11.heap.size ∧ w11.heap.size ≤ w12.heap.size ∧ w12.heap.size ≤ w13.heap.size ∧ w13.heap.size ≤ w14.heap.size) := ⟨by have := L1.out; have := L2.out; have := LW.out; omega, Z12.out, Z13.out, g14.size⟩
  clear hod g14 C13 S13 S12 Z13
  have qs := Ap.sameBytes_eq (some ⟨g1, 0, none⟩) (some ⟨g2, 0, none⟩) p p p ys w14 HY.out.1 (at_row S14.out.2.1) (at_row S14.out.2.2.1) (by have := HY.out.2.2; omega)
  go_wp2_with fail
  refine qs.mono ?_
  clear qs
  rintro e w15 ⟨rfl, g15⟩
  have S15 : Hid (KeS w w1 w15 hd X b sl ra rb c10 k7 (T1 ys) ∧ w15.heap[g1]? = some (.cells (bv ys).toArray 5 (0, 0)) ∧ w15.heap[g2]? = some (.cells (bv ys).toArray 5 (0, 0)) ∧ w15.ownsRow w11.heap.size 5 1 (.slice aw p cw) p (bv ys) ∧ w15.ownsRow w12.heap.size 5 1 (.slice ac LO cc) LO (O.map (Value.int .u8)) ∧ w15.ownsRow w13.heap.size 5 1 (.slice ad LO cd) LO (O.map (Value.int .u8))) := ⟨S14.out.1.grown g15, box_at S14.out.2.1 g15, box_at S14.out.2.2.1 g15, own_grow S14.out.2.2.2.1 g15, own_grow S14.out.2.2.2.2.1 g15, own_grow S14.out.2.2.2.2.2 g15⟩
  clear g15 S14
  have hlq : (bv ys).length = p := by rw [bv_length, HY.out.1]
  have hR : Ap.Rw w15 0 [.slice (some ⟨g1, 0, none⟩) p p, .slice (some ⟨g2, 0, none⟩) p p] :=
    Ap.Rw.cons (Ap.own_of_row S15.out.2.1 hlq (Nat.zero_le _) (by unfold maxLen; have := HY.out.2.2; omega)) (by have := HY.out.2.2; omega) (fun u hu => by
      simp only [List.mem_cons, List.not_mem_nil, or_false] at hu
      subst hu
      right
      intro e
      have := L2.out
      have e : some g1 = some g2 := e
      simp at e
      omega)
    (Ap.Rw.cons (Ap.own_of_row S15.out.2.2.1 hlq (Nat.zero_le _) (by unfold maxLen; have := HY.out.2.2; omega)) (by have := HY.out.2.2; omega) (fun u hu => by cases hu) (Ap.Rw.nil _ _))
  have hap := Ap.apartBytes_rows 0 _ w15 hR (Nat.zero_le _) (by simp) (by simp)
  clear hR hlq
  go_wp2_with fail
  refine hap.mono ?_
  clear hap
  rintro e w16 ⟨rfl, hg⟩
  have hTT : ∀ i, (∃ j, j < 2 ∧ (([.slice (some ⟨g1, 0, none⟩) p p, .slice (some ⟨g2, 0, none⟩) p p] : List Value).getD j undef).ownBlock = some i) → i = g1 ∨ i = g2 := by
    rintro i ⟨j, hj, e⟩
    have h3 : j = 0 ∨ j = 1 := by omega
    rcases h3 with rfl | rfl
    · left
      have e : some g1 = some i := e
      simpa using e.symm
    · right
      have e : some g2 = some i := e
      simpa using e.symm
  have hK16 : Kept w15 w16 (fun i => i = g1 ∨ i = g2) := ⟨hg.os, hg.tape, hg.output, hg.size, fun i hi hn => hg.block i hi (fun t => hn (hTT i t))⟩
  have S16 : Hid (KeS w w1 w16 hd X b sl ra rb c10 k7 (T1 ys) ∧ w16.ownsRow w11.heap.size 5 1 (.slice aw p cw) p (bv ys) ∧ w16.ownsRow w12.heap.size 5 1 (.slice ac LO cc) LO (O.map (Value.int .u8)) ∧ w16.ownsRow w13.heap.size 5 1 (.slice ad LO cd) LO (O.map (Value.int .u8))) := by
    have l1 := L1.out
    have l2 := L2.out
    have lw := LW.out
    have z := Z14.out
    refine ⟨S15.out.1.rows hK16 ?_, own_keptK S15.out.2.2.2.1 hK16 (fun i hi => ?_), own_keptK S15.out.2.2.2.2.1 hK16 (fun i hi => ?_), own_keptK S15.out.2.2.2.2.2 hK16 (fun i hi => ?_)⟩
    · rintro i (rfl | rfl)
      · exact ⟨N1.out, l1, _, _, S15.out.2.1⟩
      · exact ⟨N2.out, by omega, _, _, S15.out.2.2.1⟩
    · have := NW.out i hi; omega
    · have := NC.out i hi; omega
    · have := ND.out i hi; omega
  clear hTT hK16 hg S15
  obtain ⟨ac', cc', e1, -, -, -, hac, -⟩ := Fm.own_at S16.out.2.2.1
  cases e1
  obtain ⟨ad', cd', e1, -, -, -, had, -⟩ := Fm.own_at S16.out.2.2.2
  cases e1
  have qs := Fm.same_eq ac ad LO cc cd O w16 HLO.out hac had (by have := HLn.out; omega)
  clear hac had
  go_wp2_with fail
  refine qs.mono ?_
  clear qs
  rintro e w17 ⟨rfl, g17⟩
  have S17 : Hid (KeS w w1 w17 hd X b sl ra rb c10 k7 (T1 ys) ∧ w17.ownsRow w11.heap.size 5 1 (.slice aw p cw) p (bv ys) ∧ w17.ownsRow w12.heap.size 5 1 (.slice ac LO cc) LO (O.map (Value.int .u8)) ∧ w17.ownsRow w13.heap.size 5 1 (.slice ad LO cd) LO (O.map (Value.int .u8))) := ⟨S16.out.1.grown g17, own_grow S16.out.2.1 g17, own_grow S16.out.2.2.1 g17, own_grow S16.out.2.2.2 g17⟩
  clear g17 S16
  have hR : Ap.Rw w17 0 [.slice ac LO cc, .slice ad LO cd] :=
    Ap.Rw.cons (own_lo S17.out.2.2.1 (Nat.zero_le _)) (by have := HLn.out; omega) (fun u hu => by
      simp only [List.mem_cons, List.not_mem_nil, or_false] at hu
      subst hu
      cases hx : (Value.slice ac LO cc).ownBlock with
      | none => exact Or.inl rfl
      | some i =>
        right
        intro e
        have h1 := NC.out i hx
        have h2 := ND.out i e.symm
        have := Z14.out
        omega)
    (Ap.Rw.cons (own_lo S17.out.2.2.2 (Nat.zero_le _)) (by have := HLn.out; omega) (fun u hu => by cases hu) (Ap.Rw.nil _ _))
  have hap := Ap.apartBytes_rows 0 _ w17 hR (Nat.zero_le _) (by simp) (by simp)
  clear hR
  go_wp2_with fail
  refine hap.mono ?_
  clear hap
  rintro e w18 ⟨rfl, hg⟩
  have hTT : ∀ i, (∃ j, j < 2 ∧ (([.slice ac LO cc, .slice ad LO cd] : List Value).getD j undef).ownBlock = some i) → (Value.slice ac LO cc).ownBlock = some i ∨ (Value.slice ad LO cd).ownBlock = some i := by
    rintro i ⟨j, hj, e⟩
    have h3 : j = 0 ∨ j = 1 := by omega
    rcases h3 with rfl | rfl
    · exact Or.inl e
    · exact Or.inr e
  have hK18 : Kept w17 w18 (fun i => (Value.slice ac LO cc).ownBlock = some i ∨ (Value.slice ad LO cd).ownBlock = some i) := ⟨hg.os, hg.tape, hg.output, hg.size, fun i hi hn => hg.block i hi (fun t => hn (hTT i t))⟩
  have S18 : Hid (KeS w w1 w18 hd X b sl ra rb c10 k7 (T1 ys) ∧ w18.ownsRow w11.heap.size 5 1 (.slice aw p cw) p (bv ys)) := by
    have z := Z14.out
    refine ⟨S17.out.1.rows hK18 ?_, own_keptK S17.out.2.1 hK18 (fun i hi => ?_)⟩
    · rintro i (hi | hi)
      · obtain ⟨a, cs, hc⟩ := own_cells S17.out.2.2.1 hi
        exact ⟨(NC.out i hi).1, by omega, cs, _, hc⟩
      · obtain ⟨a, cs, hc⟩ := own_cells S17.out.2.2.2 hi
        exact ⟨(ND.out i hi).1, by omega, cs, _, hc⟩
    · have h1 := NW.out i hi
      rintro (h2 | h2)
      · have := NC.out i h2; omega
      · have := ND.out i h2; omega
  clear hTT hK18 hg S17
  have x1 := S18.out.1.bo.cell.2
  go_wp2_with fail
  refine (HL.out w18 c10 S18.out.1 (by have := HC11.out; omega)).mono ?_
  clear x1
  rintro e w19 ⟨g3, c19, rfl, hc19, hS19, hk19, hg3, hr3⟩
  have g20 := World.grownBy_alloc w19 (.cells #[.int .u64 nh.g, .int .u64 nh.c, .int .i64 nh.n, .int .u32 nh.s] 25) none
  have S20 := hide (And.intro (hS19.grown g20) (And.intro (box_at hr3 g20) (own_grow (own_keptK S18.out.2 hk19 (fun i hi => (NW.out i hi).1)) g20)))
  clear hc19 hS19 hk19 hg3 hr3 g20 S18
  obtain ⟨aw', cw', e1, -, -, -, haw, -⟩ := Ap.own_at S20.out.2.2
  cases e1
  have qs := Ap.sameBytes_eq (some ⟨g3, 0, none⟩) aw p p cw ys (w19.alloc (.cells #[.int .u64 nh.g, .int .u64 nh.c, .int .i64 nh.n, .int .u32 nh.s] 25)) HY.out.1 (at_row S20.out.2.1) haw (by have := HY.out.2.2; omega)
  clear haw
  go_wp2_with fail
  generalize w19.alloc (.cells #[.int .u64 nh.g, .int .u64 nh.c, .int .i64 nh.n, .int .u32 nh.s] 25) = w20 at *
  refine qs.mono ?_
  clear qs
  rintro e w21 ⟨rfl, g21⟩
  have GF := hide (grown_trans (HG.out w20 c19 S20.out.1) g21)
  clear g21
  go_wp2
  go_ret
  exact ⟨rfl, GF.out⟩
end Go.Proofs.YtonokaelbpfjnabGreatDoor
