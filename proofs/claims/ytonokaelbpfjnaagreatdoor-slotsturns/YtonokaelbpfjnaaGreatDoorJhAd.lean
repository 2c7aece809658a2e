/- Texts joined: Kit, Sec, Own, Awake, ArgT, ArgO. -/
import Derived.Test.YtonokaelbpfjnaaGreatDoorJhAc
import Derived.Deep.AppendLies
import Derived.Test.YtonokaelbpfjnaaGreatDoorChecked
import Derived.ProofKit
import Derived.OpenShut
import Derived.ChangeOld
import Derived.ChangeMaps5
import Derived.SizedLaws
import Derived.Deep.Slices
/- The contracts of SameBytes, SameRows, fill, Pick. -/
namespace Go.Proofs.YtonokaelbpfjnaaGreatDoor
open Go.RowKit Ap
attribute [local go_sem ↓] Go.wp_at_zero Go.wp_at_succ

theorem drews (w : World) (p q : Nat) : ∃ r, (w.drewN p).drewN q = w.drewN r := ⟨p + q, World.drewN_drewN ..⟩
set_option maxHeartbeats 1000000 in
theorem sameBytes_eq (ao bo : Option Addr) (n c d : Nat) (xs : List Nat) (w : World) (hn : xs.length = n) (ha : At w ao xs) (hb : At w bo xs) (hm : n ≤ 4611686018427387904) :
    Calls Tryz.prog 16 #[.slice ao n c, .slice bo n d] w fun e w' => e = .returned (.bool true) ∧ ∃ q, w' = w.drewN q := by
  have HA := hide (And.intro hn (And.intro ha hb))
  clear hn ha hb
  go_enter Tryz.func16, Tryz.ntmps16
  go_wp2
  go_loopg [5] n (fun k i wr => ∃ j : Nat, k + j = n ∧ i = .int .i64 j ∧ Hid (∃ q, wr = w.drewN q))
  case atStart => exact ⟨0, by omega, rfl, hide ⟨0, rfl⟩⟩
  case round =>
    obtain ⟨j, hkj, rfl, HQ⟩ := hrel
    by_cases hk : 0 < gk
    · obtain ⟨hn, ha, hb⟩ := HA.out
      have hj : j < xs.length := by omega
      obtain ⟨a, rfl, hca⟩ := ha j xs[j] (by simp [hj])
      obtain ⟨b, rfl, hcb⟩ := hb j xs[j] (by simp [hj])
      have hca' : wr.cell? (a.add j) = some (.int .u8 (xs[j] : Int)) := by obtain ⟨q, rfl⟩ := HQ.out; exact hca
      have hcb' : wr.cell? (b.add j) = some (.int .u8 (xs[j] : Int)) := by obtain ⟨q, rfl⟩ := HQ.out; exact hcb
      have h1 : (0 : Int) ≤ (j : Int) := by omega
      have h2 : (j : Int) < (n : Int) := by omega
      generalize xs[j] = x at *
      clear hn ha hb hca hcb hj
      go_wp2
      go_region_held3 (fun w' => w'.cell? (a.add j) = some (.int .u8 (x : Int)) ∧ w'.cell? (b.add j) = some (.int .u8 (x : Int))) (go_keep) (fail)
      go_wp2
      go_roundg (gk - 1)
      case measure => omega
      case rel => exact ⟨j + 1, by omega, by go_num, hide (by obtain ⟨q, rfl⟩ := HQ.out; exact ⟨q + 1, rfl⟩)⟩
    · have hj : j = n := by omega
      subst hj
      go_wp2
      go_ret
      exact ⟨rfl, HQ.out⟩

/-- Rows of bytes: the slices' values lie there, and each row's bytes. -/
def RowsAt (w : World) (ro : Option Addr) (R : List (List Nat)) : Prop := ∀ j xs, R[j]? = some xs → ∃ b o ao cap, ro = some ⟨b, o, none⟩ ∧ w.cell? ⟨b, o + j, none⟩ = some (.slice ao xs.length cap) ∧ At w ao xs ∧ xs.length ≤ 4611686018427387904
theorem RowsAt.drew {w : World} {ro : Option Addr} {R : List (List Nat)} (h : RowsAt w ro R) (q : Nat) : RowsAt (w.drewN q) ro R := h
theorem RowsAt.grown {w w' : World} {ro : Option Addr} {R : List (List Nat)} (h : RowsAt w ro R) (hg : w.grownBy w' none) : RowsAt w' ro R := by
  intro j xs hj
  obtain ⟨b, o, ao, cap, h1, h2, h3, h4⟩ := h j xs hj
  exact ⟨b, o, ao, cap, h1, hg.cell h2 (by simp), h3.grown hg, h4⟩
set_option maxHeartbeats 1000000 in
theorem sameRows_eq (ao bo : Option Addr) (n c d : Nat) (R : List (List Nat)) (w : World) (hn : R.length = n) (ha : RowsAt w ao R) (hb : RowsAt w bo R) (hm : n ≤ 4611686018427387904) :
    Calls Tryz.prog 53 #[.slice ao n c, .slice bo n d] w fun e w' => e = .returned (.bool true) ∧ ∃ q, w' = w.drewN q := by
  have HA := hide (And.intro hn (And.intro ha hb))
  clear hn ha hb
  go_enter Tryz.func53, Tryz.ntmps53
  go_wp2
  go_loopg [5] n (fun k i wr => ∃ j : Nat, k + j = n ∧ i = .int .i64 j ∧ Hid (∃ q, wr = w.drewN q))
  case atStart => exact ⟨0, by omega, rfl, hide ⟨0, rfl⟩⟩
  case round =>
    obtain ⟨j, hkj, rfl, HQ⟩ := hrel
    by_cases hk : 0 < gk
    · obtain ⟨hn, ha, hb⟩ := HA.out
      have hj : j < R.length := by omega
      obtain ⟨b1, o1, p1, c1, rfl, x1, y1, z1⟩ := ha j R[j] (by simp [hj])
      obtain ⟨b2, o2, p2, c2, rfl, x2, y2, z2⟩ := hb j R[j] (by simp [hj])
      have hca' : wr.cell? ⟨b1, o1 + j, none⟩ = some (.slice p1 R[j].length c1) := by obtain ⟨q, rfl⟩ := HQ.out; exact x1
      have hcb' : wr.cell? ⟨b2, o2 + j, none⟩ = some (.slice p2 R[j].length c2) := by obtain ⟨q, rfl⟩ := HQ.out; exact x2
      have h1 : (0 : Int) ≤ (j : Int) := by omega
      have h2 : (j : Int) < (n : Int) := by omega
      have HS : Hid (∀ q, Calls Tryz.prog 16 #[.slice p1 R[j].length c1, .slice p2 R[j].length c2] (wr.drewN q) fun e w' => e = .returned (.bool true) ∧ ∃ q', w' = (wr.drewN q).drewN q') := by
        intro q
        obtain ⟨q0, rfl⟩ := HQ.out
        exact sameBytes_eq p1 p2 _ c1 c2 R[j] _ rfl y1 y2 z1
      generalize R[j].length = m at *
      clear hn ha hb x1 x2 y1 y2 z1 z2 hj
      go_wp2
      go_quiet ((go_at_call 16; exact Calls.quiet_of (HS.out _)))
      go_wp2
      go_roundg (gk - 1)
      case measure => omega
      case rel => exact ⟨j + 1, by omega, by go_num, hide (by obtain ⟨q, rfl⟩ := HQ.out; exact drews w q _)⟩
    · have hj : j = n := by omega
      subst hj
      go_wp2
      go_ret
      exact ⟨rfl, HQ.out⟩

theorem tmod_neg (x : Int) (n : Nat) (hn : 1 ≤ n) (h : x.tmod (n : Int) < 0) : x.tmod (n : Int) + (n : Int) = x % (n : Int) := by
  have h1 := Int.tmod_eq_emod (a := x) (b := (n : Int))
  have h2 := Int.emod_nonneg x (show (n : Int) ≠ 0 by omega)
  have h3 := Int.emod_lt_of_pos x (show (0 : Int) < (n : Int) by omega)
  rw [h1] at h ⊢
  split at h
  · omega
  · rename_i h4
    rw [if_neg h4]
    simp
theorem tmod_nonneg (x : Int) (n : Nat) (hn : 1 ≤ n) (h : 0 ≤ x.tmod (n : Int)) : x.tmod (n : Int) = x % (n : Int) := by
  have h1 := Int.tmod_eq_emod (a := x) (b := (n : Int))
  have h2 := Int.emod_nonneg x (show (n : Int) ≠ 0 by omega)
  have h3 := Int.emod_lt_of_pos x (show (0 : Int) < (n : Int) by omega)
  rw [h1] at h ⊢
  split
  · omega
  · rename_i h4
    rw [if_neg h4] at h
    simp at h
    omega

set_option maxHeartbeats 400000 in
theorem pick_any (x N : Int) (n : Nat) (w : World) (hN : N = (n : Int)) (hn : 1 ≤ n) (hn2 : n ≤ 65536) :
    Calls Tryz.prog 18 #[.int .i64 x, .int .i64 N] w fun e w' => e = .returned (.int .i64 (x % (n : Int))) ∧ w' = w := by
  subst hN
  have h1 : (1 : Int) ≤ (n : Int) := by omega
  have h2 : ((n : Int) == 0) = false := by simp; omega
  have hb := Int.tmod_lt_of_pos x (show (0 : Int) < (n : Int) by omega)
  have hb2 := Int.lt_tmod_of_pos x (show (0 : Int) < (n : Int) by omega)
  have hr1 := tmod_neg x n hn
  have hr2 := tmod_nonneg x n hn
  by_cases hs : x.tmod (n : Int) < 0
  · have hr := hr1 hs
    have HR := hide hr
    clear hr hr1 hr2
    go_enter Tryz.func18, Tryz.ntmps18
    go_wp2
    go_ret
    exact ⟨by rw [← HR.out]; rfl, rfl⟩
  · have hs2 : 0 ≤ x.tmod (n : Int) := by omega
    have hr := hr2 hs2
    have HR := hide hr
    clear hr hr1 hr2
    go_enter Tryz.func18, Tryz.ntmps18
    go_wp2
    go_ret
    exact ⟨by rw [← HR.out]; rfl, rfl⟩


/-- What a number fills. -/
def fillB (a : Int) (j : Nat) : Nat := (wrap64 (a + wrap64 ((j : Int) * a.tmod 5)) % 256).toNat
theorem fillB_cast (a : Int) (j : Nat) : wrap64 (a + wrap64 ((j : Int) * a.tmod 5)) % 256 = ((fillB a j : Nat) : Int) := by unfold fillB; omega
def fills (a : Int) (n : Nat) : List Nat := (List.range n).map (fillB a)
theorem fills_length (a : Int) (n : Nat) : (fills a n).length = n := by simp [fills]
def rowF (a : Int) (n j : Nat) : List Nat := fills a j ++ zs (n - j)
theorem rowF_get (a : Int) (n j : Nat) (h : j < n) : (rowF a n j)[j]? = some 0 := by
  rw [rowF, List.getElem?_append_right (by simp [fills_length]), fills_length, Nat.sub_self, zs, List.getElem?_replicate, if_pos (by omega)]
theorem rowF_set (a : Int) (n j : Nat) (h : j < n) : (rowF a n j).set j (fillB a j) = rowF a n (j + 1) := by
  have e : n - j = (n - (j + 1)) + 1 := by omega
  rw [rowF, rowF, List.set_append, fills_length, if_neg (by omega), Nat.sub_self, e, zs, List.replicate_succ, List.set_cons_zero, zs]
  unfold fills
  rw [List.range_succ, List.map_append, List.append_assoc]
  rfl
end Go.Proofs.YtonokaelbpfjnaaGreatDoor
/- Sectors behind writes: plain lemmas. -/
namespace Go.Proofs.YtonokaelbpfjnaaGreatDoor
open Go.RowKit Ap

theorem splice_get (D ys : List Nat) (off i : Nat) (h : off + ys.length ≤ D.length) : (splice D off ys)[i]? = if off ≤ i ∧ i < off + ys.length then ys[i - off]? else D[i]? := by
  unfold splice
  by_cases h1 : i < off
  · rw [if_neg (by omega), List.getElem?_append_left (by simp; omega), List.getElem?_take, if_pos h1]
  · rw [List.getElem?_append_right (by simp; omega)]
    simp only [List.length_take]
    rw [show i - min off D.length = i - off by omega]
    by_cases h2 : i < off + ys.length
    · rw [if_pos (by omega), List.getElem?_append_left (by omega)]
    · rw [if_neg (by omega), List.getElem?_append_right (by omega), List.getElem?_drop]
      congr 1; omega
theorem secOf_get (size : Nat) (D : List Nat) (s i : Nat) : (secOf size D s)[i]? = if i < size then D[s * size + i]? else none := by
  simp [secOf, List.getElem?_take, List.getElem?_drop]
/-- Bytes over the first ones of others. -/
def over (ys old : List Nat) : List Nat := ys ++ old.drop ys.length
theorem over_get (ys old : List Nat) (i : Nat) : (over ys old)[i]? = if i < ys.length then ys[i]? else old[i]? := by
  unfold over
  by_cases h : i < ys.length
  · rw [if_pos h, List.getElem?_append_left h]
  · rw [if_neg h, List.getElem?_append_right (by omega), List.getElem?_drop]; congr 1; omega
theorem over_length (ys old : List Nat) (h : ys.length ≤ old.length) : (over ys old).length = old.length := by simp [over]; omega
theorem secOf_splice_same {n size s : Nat} {D ys : List Nat} (hD : D.length = n * size) (hs : s < n) (hy : ys.length ≤ size) : secOf size (splice D (s * size) ys) s = over ys (secOf size D s) := by
  have hle : (s + 1) * size ≤ n * size := Nat.mul_le_mul_right _ hs
  rw [Nat.succ_mul] at hle
  apply List.ext_getElem?
  intro i
  rw [secOf_get, over_get, secOf_get, splice_get _ _ _ _ (by omega)]
  by_cases h : i < ys.length
  · rw [if_pos (by omega), if_pos (by omega), if_pos h]; congr 1; omega
  · rw [if_neg h]
    by_cases h2 : i < size
    · rw [if_pos h2, if_neg (by omega), if_pos h2]
    · rw [if_neg h2, if_neg h2]
theorem mul_far {s t size : Nat} (h : s ≠ t) : (s + 1) * size ≤ t * size ∨ (t + 1) * size ≤ s * size := by
  rcases Nat.lt_or_gt_of_ne h with h | h
  · exact Or.inl (Nat.mul_le_mul_right _ h)
  · exact Or.inr (Nat.mul_le_mul_right _ h)
theorem secOf_splice_other {n size s t : Nat} {D ys : List Nat} (hD : D.length = n * size) (hs : s < n) (hy : ys.length ≤ size) (hne : s ≠ t) : secOf size (splice D (s * size) ys) t = secOf size D t := by
  have hle : (s + 1) * size ≤ n * size := Nat.mul_le_mul_right _ hs
  have hf := mul_far (size := size) hne
  rw [Nat.succ_mul] at hle
  rw [Nat.succ_mul, Nat.succ_mul] at hf
  apply List.ext_getElem?
  intro i
  rw [secOf_get, secOf_get, splice_get _ _ _ _ (by omega)]
  by_cases h2 : i < size
  · rw [if_pos h2, if_pos h2, if_neg (by omega)]
  · rw [if_neg h2, if_neg h2]
/-- One sector behind the first j writes. -/
def stlS (L : Nat → Nat) (W : List Wt) (s : Nat) (old : List Nat) : Nat → List Nat
  | 0 => old
  | j + 1 => match W[j]? with
    | some x => if x.sec = s then over (x.xs.take (L j)) (stlS L W s old j) else stlS L W s old j
    | none => stlS L W s old j
/-- The writes fit the disk. -/
def Fits (n size : Nat) (W : List Wt) : Prop := ∀ x ∈ W, x.sec < n ∧ x.xs.length = size
theorem DiskAt.fitsW {w : World} {k : Dk} {n size : Nat} {D : List Nat} {W : List Wt} (h : DiskAt w k n size D W) : Fits n size W := fun x hx => ⟨(h.waits x hx).1, (h.waits x hx).2.1⟩
theorem stl_length {n size : Nat} {L : Nat → Nat} {D : List Nat} {W : List Wt} (hD : D.length = n * size) (hW : Fits n size W) (j : Nat) : (stl size L D W j).length = n * size := by
  induction j with
  | zero => exact hD
  | succ j ih =>
    rw [stl]
    split
    · rename_i x hx
      obtain ⟨h1, h2⟩ := hW x (List.mem_of_getElem? hx)
      have hle : (x.sec + 1) * size ≤ n * size := Nat.mul_le_mul_right _ h1
      rw [Nat.succ_mul] at hle
      rw [length_splice _ _ _ (by rw [ih, List.length_take]; omega), ih]
    · exact ih
theorem secOf_stl {n size : Nat} {L : Nat → Nat} {D : List Nat} {W : List Wt} (hD : D.length = n * size) (hW : Fits n size W) (s : Nat) (j : Nat) : secOf size (stl size L D W j) s = stlS L W s (secOf size D s) j := by
  induction j with
  | zero => rfl
  | succ j ih =>
    rw [stl, stlS]
    cases hx : W[j]? with
    | none => exact ih
    | some x =>
      obtain ⟨h1, h2⟩ := hW x (List.mem_of_getElem? hx)
      show secOf size (splice (stl size L D W j) (x.sec * size) (x.xs.take (L j))) s = if x.sec = s then over (x.xs.take (L j)) (stlS L W s (secOf size D s) j) else stlS L W s (secOf size D s) j
      by_cases hs : x.sec = s
      · rw [if_pos hs, ← hs, secOf_splice_same (stl_length hD hW j) h1 (by simp [h2]; omega), hs, ih]
      · rw [if_neg hs, secOf_splice_other (stl_length hD hW j) h1 (by simp [h2]; omega) hs, ih]
theorem zs_sec (n size s : Nat) (h : s < n) : secOf size (zs (n * size)) s = zs size := by
  have hle : (s + 1) * size ≤ n * size := Nat.mul_le_mul_right _ h
  rw [Nat.succ_mul] at hle
  simp [secOf, zs, List.drop_replicate, List.take_replicate]; omega
/-- All sectors. -/
def secs (n size : Nat) (D : List Nat) : List (List Nat) := (List.range n).map (secOf size D)
theorem secs_length (n size : Nat) (D : List Nat) : (secs n size D).length = n := by simp [secs]
theorem secs_get (n size : Nat) (D : List Nat) (s : Nat) (h : s < n) : (secs n size D)[s]? = some (secOf size D s) := by simp [secs, h]
/-- A row of bytes in a block of its own: some bytes of it. -/
theorem at_drop {w : World} {A : Nat} {xs : List Nat} {t : TypeId} {fr : Nat × Nat} (h : w.heap[A]? = some (.cells (bv xs).toArray t fr)) (o : Nat) : At w (some ⟨A, o, none⟩) (xs.drop o) := by
  intro j u hu
  refine ⟨_, rfl, ?_⟩
  rw [List.getElem?_drop] at hu
  rw [Addr.add_lit, cell_row h]
  exact bv_get xs _ u hu
end Go.Proofs.YtonokaelbpfjnaaGreatDoor
/- A disk that the call itself has made: its contracts once more. -/
namespace Go.Proofs.YtonokaelbpfjnaaGreatDoor
open Go.RowKit Ap

/-- A disk, all of whose blocks are new since w0; no elder block has turned. -/
structure DkS (w0 w : World) (k : Dk) (n size : Nat) (D : List Nat) (W : List Wt) : Prop where
  disk : DiskAt w k n size D W
  own : ∀ i, k.own i → w0.heap.size ≤ i
  grown : w0.grownBy w none

section
variable {w0 w : World} {k : Dk} {n size : Nat} {D : List Nat} {W : List Wt}
theorem DkS.then (h : DkS w0 w k n size D W) {w' : World} (hg : w.grownBy w' none) : DkS w0 w' k n size D W := ⟨h.disk.grown hg, h.own, grown_trans h.grown hg⟩
theorem DkS.of (h : DiskAt w k n size D W) (ho : ∀ i, k.own i → w0.heap.size ≤ i) (hg : w0.grownBy w none) : DkS w0 w k n size D W := ⟨h, ho, hg⟩
theorem kept_new (h : w0.grownBy w none) {w' : World} {S : Nat → Prop} (hk : Kept w w' S) (hS : ∀ i, S i → w0.heap.size ≤ i) : w0.grownBy w' none :=
  ((Kept.new h S).trans hk (fun _ _ e => e)).grown (fun i hi e => by have := hS i e; omega)
theorem DkS.wrote (h : DkS w0 w k n size D W) {w' : World} {k' : Dk} {s : Nat} {xs : List Nat} (hw : Wrote w w' k k' n size D W s xs) : DkS w0 w' k' n size D (W ++ [⟨s, w.heap.size, xs⟩]) := by
  refine ⟨hw.disk, ?_, kept_new h.grown hw.kept ?_⟩
  · rintro i (e | e | e | e)
    · rw [hw.d] at e; exact h.own i (.inl e)
    · rw [hw.db] at e; exact h.own i (.inr (.inl e))
    · rcases hw.vw i e with e | e
      · exact h.own i (.inr (.inr (.inl e)))
      · exact Nat.le_trans h.grown.size e
    · rw [hw.mb] at e; exact h.own i (.inr (.inr (.inr e)))
  · rintro i (e | e | e)
    · exact h.own i (.inl e)
    · exact h.own i (.inr (.inr (.inl e)))
    · exact h.own i (.inr (.inr (.inr e)))
theorem DkS.calm (h : DkS w0 w k n size D W) {w' : World} {D' : List Nat} (hd : DiskAt w' k.calm n size D' []) (hk : Kept w w' (fun i => i = k.d ∨ i = k.db ∨ i = k.mb)) : DkS w0 w' k.calm n size D' [] := by
  refine ⟨hd, ?_, kept_new h.grown hk ?_⟩
  · rintro i (e | e | e | e)
    · exact h.own i (.inl e)
    · exact h.own i (.inr (.inl e))
    · simp [Dk.calm, Value.ownBlock] at e
    · exact h.own i (.inr (.inr (.inr e)))
  · rintro i (e | e | e)
    · exact h.own i (.inl e)
    · exact h.own i (.inr (.inl e))
    · exact h.own i (.inr (.inr (.inr e)))
/-- A row of bytes is no block of the disk's but its durable one. -/
theorem DiskAt.bytes_off (h : DiskAt w k n size D W) {A : Nat} {c : Array Value} {fr : Nat × Nat} (hA : w.heap[A]? = some (.cells c 5 fr)) (hne : A ≠ k.db) : ¬ k.own A := by
  obtain ⟨es, cl, hm⟩ := h.map.block
  rintro (e | e | e | e)
  · rw [e, h.head] at hA; simp at hA
  · exact hne e
  · rcases h.row.2 with ⟨hr, h0⟩ | ⟨g, cap, cur, hr, h2, h3, _⟩
    · rw [hr] at e; simp [Value.ownBlock] at e
    · rw [hr] at e; simp only [Value.ownBlock, Option.some.injEq] at e; subst e; rw [hA] at h3; simp at h3
  · rw [e, hm] at hA; simp at hA
theorem Wrote.bytes {w' : World} {k' : Dk} {s : Nat} {xs : List Nat} (hw : Wrote w w' k k' n size D W s xs) (h : DiskAt w k n size D W) {A : Nat} {c : Array Value} {fr : Nat × Nat} (hA : w.heap[A]? = some (.cells c 5 fr)) : w'.heap[A]? = some (.cells c 5 fr) := by
  obtain ⟨e1, e2, e3, e4, e5, e6⟩ := h.vw_ne
  refine hw.kept.at hA ?_
  by_cases hd : A = k.db
  · subst hd
    rintro (e | e | e)
    · exact e4 e.symm
    · exact e2 e
    · exact e6 e
  · have := h.bytes_off hA hd
    rintro (e | e | e)
    · exact this (.inl e)
    · exact this (.inr (.inr (.inl e)))
    · exact this (.inr (.inr (.inr e)))
theorem calm_bytes {w' : World} (h : DiskAt w k n size D W) (hk : Kept w w' (fun i => i = k.d ∨ i = k.db ∨ i = k.mb)) {A : Nat} {c : Array Value} {fr : Nat × Nat} (hA : w.heap[A]? = some (.cells c 5 fr)) (hd : A ≠ k.db) : w'.heap[A]? = some (.cells c 5 fr) := by
  have := h.bytes_off hA hd
  refine hk.at hA ?_
  rintro (e | e | e)
  · exact this (.inl e)
  · exact this (.inr (.inl e))
  · exact this (.inr (.inr (.inr e)))
/-- Cells of another type are none of the disk's. -/
theorem DiskAt.other_off (h : DiskAt w k n size D W) {A : Nat} {c : Array Value} {t : TypeId} {fr : Nat × Nat} (hA : w.heap[A]? = some (.cells c t fr)) (h1 : t ≠ 141) (h2 : t ≠ 5) (h3 : t ≠ 176) : ¬ k.own A := by
  obtain ⟨es, cl, hm⟩ := h.map.block
  rintro (e | e | e | e)
  · rw [e, h.head] at hA; simp at hA; exact h1 hA.2.1.symm
  · rw [e, h.dur] at hA; simp at hA; exact h2 hA.2.1.symm
  · rcases h.row.2 with ⟨hr, h0⟩ | ⟨g, cap, cur, hr, _, h4, _⟩
    · rw [hr] at e; simp [Value.ownBlock] at e
    · rw [hr] at e; simp only [Value.ownBlock, Option.some.injEq] at e; subst e; rw [hA] at h4; simp at h4; exact h3 h4.2.1
  · rw [e, hm] at hA; simp at hA
theorem Wrote.other {w' : World} {k' : Dk} {s : Nat} {xs : List Nat} (hw : Wrote w w' k k' n size D W s xs) {A : Nat} {o : Obj} (hA : w.heap[A]? = some o) (hn : ¬ k.own A) : w'.heap[A]? = some o := by
  refine hw.kept.at hA ?_
  rintro (e | e | e)
  · exact hn (.inl e)
  · exact hn (.inr (.inr (.inl e)))
  · exact hn (.inr (.inr (.inr e)))
theorem calm_other {w' : World} (hk : Kept w w' (fun i => i = k.d ∨ i = k.db ∨ i = k.mb)) {A : Nat} {o : Obj} (hA : w.heap[A]? = some o) (hn : ¬ k.own A) : w'.heap[A]? = some o := by
  refine hk.at hA ?_
  rintro (e | e | e)
  · exact hn (.inl e)
  · exact hn (.inr (.inl e))
  · exact hn (.inr (.inr (.inr e)))
/-- Another block, new since w0, has been written. -/
theorem DkS.row (h : DkS w0 w k n size D W) {w' : World} {b : Nat} (hg : w.grownBy w' (some b)) (hb : ∀ i, foot k W i → i ≠ b) (hb0 : w0.heap.size ≤ b) : DkS w0 w' k n size D W :=
  ⟨h.disk.same fun i hi => hg.block i (h.disk.lt i hi) (fun e => hb i hi (Option.some.inj e)), h.own, grown_then h.grown hg (fun j e => Or.inl (by have := Option.some.inj e; omega))⟩
theorem newS (n size : Nat) (w0 w : World) (hg : w0.grownBy w none) (h : mayB (n : Int) (size : Int) = true) : Calls Tryz.prog 34 #[.int .i64 (n : Int), .int .i64 (size : Int)] w fun e w' =>
    ∃ k : Dk, e = .returned (.tuple #[.pointer (some ⟨k.d, 0, none⟩), .int .i64 0]) ∧ DkS w0 w' k n size (zs (n * size)) [] ∧ w.grownBy w' none ∧ ∀ i, k.own i → w.heap.size ≤ i := by
  refine (new_any n size w h).mono ?_
  rintro e w' ⟨rfl, h1, h2⟩
  have ho : ∀ i, Dk.own ⟨w.heap.size + 2, w.heap.size, .slice none 0 0, w.heap.size + 1⟩ i → w.heap.size ≤ i := by
    rintro i (e | e | e | e)
    · have e : i = w.heap.size + 2 := e
      omega
    · have e : i = w.heap.size := e
      omega
    · simp [Value.ownBlock] at e
    · have e : i = w.heap.size + 1 := e
      omega
  exact ⟨⟨w.heap.size + 2, w.heap.size, .slice none 0 0, w.heap.size + 1⟩, rfl, ⟨h1, fun i hi => Nat.le_trans hg.size (ho i hi), grown_trans hg h2⟩, h2, ho⟩
theorem writeS {d : Nat} (hd : k.d = d) (h : DkS w0 w k n size D W) (hW : W.length < 1000000) (s : Nat) (hs : s < n) (ao : Option Addr) (cap : Nat) (xs : List Nat) (hat : At w ao xs) (hx : xs.length = size) :
    Calls Tryz.prog 97 #[.pointer (some ⟨d, 0, none⟩), .int .i64 (s : Int), .slice ao size cap] w fun e w' => e = .returned (.int .i64 0) ∧ ∃ k', k'.d = d ∧ k'.db = k.db ∧ DkS w0 w' k' n size D (W ++ [⟨s, w.heap.size, xs⟩]) ∧ Wrote w w' k k' n size D W s xs := by
  subst hd
  refine (write_any h.disk hW s hs ao cap xs hat hx).mono ?_
  rintro e w' ⟨rfl, k', hw⟩
  exact ⟨rfl, k', hw.d, hw.db, h.wrote hw, hw⟩
theorem syncS {d : Nat} (hd : k.d = d) (h : DkS w0 w k n size D W) : Calls Tryz.prog 155 #[.pointer (some ⟨d, 0, none⟩)] w fun e w' => e = .returned (.int .i64 0) ∧
    DkS w0 w' k.calm n size (stl size (fun _ => size) D W W.length) [] ∧ Kept w w' (fun i => i = k.d ∨ i = k.db ∨ i = k.mb) := by
  subst hd
  refine (sync_any h.disk).mono ?_
  rintro e w' ⟨rfl, h1, h2⟩
  exact ⟨rfl, h.calm h1 h2, h2⟩
theorem crashS {d : Nat} (hd : k.d = d) (h : DkS w0 w k n size D W) (fo : Option Addr) (m cap : Nat) (F : List (Int × Int)) (hm : F.length = m) (hF : FatesAt w fo F) (hfo : ∀ a, fo = some a → a.block ≠ k.db) : Calls Tryz.prog 71 #[.pointer (some ⟨d, 0, none⟩), .slice fo m cap] w fun e w' => e = .returned (.int .i64 0) ∧
    DkS w0 w' k.calm n size (stl size (fun i => lasts (fateK F i) (fateA F i) size) D W W.length) [] ∧ Kept w w' (fun i => i = k.d ∨ i = k.db ∨ i = k.mb) := by
  subst hd
  refine (crash_any h.disk fo m cap F hm hF hfo).mono ?_
  rintro e w' ⟨rfl, h1, h2⟩
  exact ⟨rfl, h.calm h1 h2, h2⟩
theorem readS {d : Nat} (hd : k.d = d) (h : DkS w0 w k n size D W) (s : Nat) (hs : s < n) : Calls Tryz.prog 100 #[.pointer (some ⟨d, 0, none⟩), .int .i64 (s : Int)] w fun e w' =>
    e = .returned (.tuple #[.slice (some ⟨w.heap.size, 0, none⟩) size size, .int .i64 0]) ∧ w'.heap[w.heap.size]? = some (.cells (bv (found size D W s)).toArray 5 (0, 0)) ∧ w.grownBy w' none := by
  subst hd
  exact read_any h.disk s hs
theorem waitingS {d : Nat} (hd : k.d = d) (h : DkS w0 w k n size D W) : Calls Tryz.prog 87 #[.pointer (some ⟨d, 0, none⟩)] w fun e w' => e = .returned (.int .i64 (W.length : Int)) ∧ w' = w := by
  subst hd
  exact waiting_any h.disk
end
/-- Fates that have just been laid. -/
def fcells (F : List (Int × Int)) : List Value := F.flatMap fun p => [.int .i64 p.1, .int .i64 p.2]
theorem fcells_get (F : List (Int × Int)) (j : Nat) (p : Int × Int) (h : F[j]? = some p) : (fcells F)[j * 2]? = some (.int .i64 p.1) ∧ (fcells F)[j * 2 + 1]? = some (.int .i64 p.2) := by
  induction F generalizing j with
  | nil => simp at h
  | cons y r ih =>
    cases j with
    | zero => simp at h; subst h; simp [fcells]
    | succ i =>
      have := ih i (by simpa using h)
      have e : fcells (y :: r) = .int .i64 y.1 :: .int .i64 y.2 :: fcells r := by simp [fcells]
      rw [e, show (i + 1) * 2 = i * 2 + 2 by omega, show i * 2 + 2 + 1 = (i * 2 + 1) + 2 by omega]
      simpa using this
theorem fates_row {w : World} {g : Nat} {F : List (Int × Int)} {t : TypeId} {fr : Nat × Nat} (h : w.heap[g]? = some (.cells (fcells F).toArray t fr)) : FatesAt w (some ⟨g, 0, none⟩) F := by
  intro j p hj
  obtain ⟨a, b⟩ := fcells_get F j p hj
  exact ⟨g, 0, rfl, by rw [cell_row h, Nat.zero_add]; exact a, by rw [cell_row h, Nat.zero_add]; exact b⟩
end Go.Proofs.YtonokaelbpfjnaaGreatDoor
/- The contract of awake. -/
namespace Go.Proofs.YtonokaelbpfjnaaGreatDoor
open Go.RowKit Ap
attribute [local go_sem ↓] Go.wp_at_zero Go.wp_at_succ

theorem may_2_64 : mayB 2 64 = true := by decide
theorem may_4_64 : mayB 4 64 = true := by decide
theorem may_1_64 : mayB 1 64 = true := by decide

theorem news_at {w : World} {ad : Addr} {ys : List Nat} (h : At w (some ad) ys) : ∀ j u, (bv ys)[j]? = some u → w.cell? (ad.add j) = some u := by
  intro i v hv
  rw [bv, List.getElem?_map] at hv
  cases hj : ys[i]? with
  | none => simp [hj] at hv
  | some y =>
    simp [hj] at hv
    obtain ⟨a', ea', hc'⟩ := h i y hj
    cases ea'
    rw [← hv]; exact hc'
theorem bv_one (ys : List Nat) : ∀ u ∈ bv ys, u.oneCell' = true := by
  intro v hv; rw [bv, List.mem_map] at hv; obtain ⟨y, _, rfl⟩ := hv; rfl
/-- The world behind New, two fills and two writes, as it is in awake. -/
theorem awake_found (A B : List Nat) (hA : A.length = 64) (hB : B.length = 64) (p q : Nat) :
    found 64 (stl 64 (fun i => lasts (fateK [(1, 0), (2, 3)] i) (fateA [(1, 0), (2, 3)] i) 64) (zs (2 * 64)) [⟨1, p, A⟩, ⟨1, q, B⟩] 2) [] 1 = B.take 3 ++ A.drop 3 := by
  have hF : Fits 2 64 [⟨1, p, A⟩, ⟨1, q, B⟩] := by
    intro x hx
    simp at hx
    rcases hx with rfl | rfl
    · exact ⟨by show 1 < 2; omega, hA⟩
    · exact ⟨by show 1 < 2; omega, hB⟩
  show secOf 64 _ 1 = _
  rw [secOf_stl (n := 2) (zs_length _) hF]
  have l0 : lasts (fateK [(1, 0), (2, 3)] 0) (fateA [(1, 0), (2, 3)] 0) 64 = 64 := rfl
  have l1 : lasts (fateK [(1, 0), (2, 3)] 1) (fateA [(1, 0), (2, 3)] 1) 64 = 3 := by decide
  simp only [stlS, List.getElem?_cons_zero, List.getElem?_cons_succ, if_true, l0, l1]
  rw [List.take_of_length_le (Nat.le_of_eq hA)]
  have e : over A (secOf 64 (zs (2 * 64)) 1) = A := by
    rw [zs_sec 2 64 1 (by omega), over, List.drop_eq_nil_of_le (by simp [zs, hA]), List.append_nil]
  rw [e, over]
  simp [hB]

end Go.Proofs.YtonokaelbpfjnaaGreatDoor
/- A Tear that came in, opened. -/
namespace Go.Proofs.YtonokaelbpfjnaaGreatDoor
open Go.ChangeShapes Go.WideShapes Go.ChangeAt Go.RowKit Go.Deep

theorem Tryz.cells3 : Tryz.prog.cellsOf 3 = 1 := by kernel_rfl
theorem Tryz.cells67 : Tryz.prog.cellsOf 163 = 1 := by kernel_rfl
theorem Tryz.cells69 : Tryz.prog.cellsOf 165 = 2 := by kernel_rfl
theorem list1 {α : Type} {l : List α} (h : l.length = 1) : ∃ a, l = [a] := by
  match l, h with
  | [a], _ => exact ⟨a, rfl⟩
theorem list2 {α : Type} {l : List α} (h : l.length = 2) : ∃ a b, l = [a, b] := by
  match l, h with
  | [a, b], _ => exact ⟨a, b, rfl⟩
theorem list4 {α : Type} {l : List α} (h : l.length = 4) : ∃ a b c d, l = [a, b, c, d] := by
  match l, h with
  | [a, b, c, d], _ => exact ⟨a, b, c, d, rfl⟩
theorem list5 {α : Type} {l : List α} (h : l.length = 5) : ∃ a b c d e, l = [a, b, c, d, e] := by
  match l, h with
  | [a, b, c, d, e], _ => exact ⟨a, b, c, d, e, rfl⟩
section
variable {H : Type} {enc : TypeId × Value → H}
/-- A fate's two numbers. -/
theorem open_fate {w : World} {base fuel : Nat} {spare : Nat → Bool} {held : Bool} {cs : List Value} {x : DataW H × List MemPlace} (h : DataW.trod enc Tryz.prog w base spare held fuel 165 cs = some x) :
    ∃ K A : Int, cs = [.int .i64 K, .int .i64 A] := by
  obtain ⟨xs, n, _, rfl, hl, hsz, hf⟩ := DataW.trod_struct Tryz.underlying165 h
  rw [Tryz.cells69] at hl
  obtain ⟨v0, v1, rfl⟩ := list2 hl
  obtain ⟨y0, y1, rfl⟩ := list2 (show xs.length = 2 from hsz)
  have f0 : DataW.trod enc Tryz.prog w base spare held n 163 [v0] = some y0 := by simpa [Tryz.cells67] using hf 0 _ rfl
  have f1 : DataW.trod enc Tryz.prog w base spare held n 3 [v1] = some y1 := by simpa [Tryz.cells3] using hf 1 _ rfl
  obtain ⟨k, e0, rfl, wk⟩ := DataW.trod_int Tryz.underlying163 f0
  obtain ⟨N, e1, rfl, wN⟩ := DataW.trod_int Tryz.underlying3 f1
  simp only [List.cons.injEq, and_true] at e0 e1
  exact ⟨k, N, by rw [e0, e1]⟩
end
end Go.Proofs.YtonokaelbpfjnaaGreatDoor
/- Operations, scripts and fates that came in, opened. -/
namespace Go.Proofs.YtonokaelbpfjnaaGreatDoor
open Go.ChangeShapes Go.WideShapes Go.ChangeAt Go.RowKit Go.Deep Ap

theorem Tryz.cells35 : Tryz.prog.cellsOf 29 = 1 := by kernel_rfl
theorem Tryz.bytes69 : Tryz.prog.bytesOf 165 = 16 := by kernel_rfl
theorem list6 {α : Type} {l : List α} (h : l.length = 6) : ∃ a b c d e f, l = [a, b, c, d, e, f] := by
  match l, h with
  | [a, b, c, d, e, f], _ => exact ⟨a, b, c, d, e, f, rfl⟩
/-- A script's step: five numbers and its fates. -/
structure OpD where
  d0 : Int
  d1 : Int
  d2 : Int
  d3 : Int
  d4 : Int
  F : List (Int × Int)
/-- Fates that came in. -/
structure FIn (w : World) (fo : Option Addr) (cap : Nat) (F : List (Int × Int)) : Prop where
  at_ : FatesAt w fo F
  nil : fo = none → F.length = 0 ∧ cap = 0
  size : F.length * 16 ≤ 140737488355000
  lt : ∀ a, fo = some a → 0 < F.length → a.block < w.heap.size
structure OpAt (w : World) (b off : Nat) (o : OpD) (fo : Option Addr) (cap : Nat) : Prop where
  c0 : w.cell? ⟨b, off, none⟩ = some (.int .i64 o.d0)
  c1 : w.cell? ⟨b, off + 1, none⟩ = some (.int .i64 o.d1)
  c2 : w.cell? ⟨b, off + 2, none⟩ = some (.int .i64 o.d2)
  c3 : w.cell? ⟨b, off + 3, none⟩ = some (.int .i64 o.d3)
  c4 : w.cell? ⟨b, off + 4, none⟩ = some (.int .i64 o.d4)
  c5 : w.cell? ⟨b, off + 5, none⟩ = some (.slice fo o.F.length cap)
  fin : FIn w fo cap o.F
def OpsAt (w : World) (ao : Option Addr) (os : List OpD) : Prop := ∀ j o, os[j]? = some o → ∃ b off fo cap, ao = some ⟨b, off, none⟩ ∧ OpAt w b (off + j * 6) o fo cap
theorem cell_lt {w : World} {a : Addr} {v : Value} (h : w.cell? a = some v) : a.block < w.heap.size := by
  unfold World.cell? at h
  split at h
  · rename_i hb; exact (Array.getElem?_eq_some_iff.1 hb).1
  · cases h
theorem fates_lt {w : World} {fo : Option Addr} {F : List (Int × Int)} (h : FatesAt w fo F) : ∀ a, fo = some a → 0 < F.length → a.block < w.heap.size := by
  intro a e hl
  obtain ⟨b, o, e', c1, _⟩ := h 0 F[0] (List.getElem?_eq_getElem hl)
  rw [e] at e'
  cases e'
  exact cell_lt c1
section
variable {H : Type} {enc : TypeId × Value → H}
theorem addr_plain {w : World} {a : Addr} {v : Value} (h : w.cell? a = some v) (hv : ∀ (k : IntKind) (n : Int), v = .int k n → True) (hi : ∃ k n, v = .int k n) : a = ⟨a.block, a.off, none⟩ := by
  obtain ⟨k, n, rfl⟩ := hi
  have h2 : a.spot = none := by
    unfold World.cell? at h
    split at h
    · split at h
      · cases h
      · rename_i hs; simpa using hs
    · cases h
  cases a; simp_all
theorem open_fates {w : World} {base fuel : Nat} {spare : Nat → Bool} {held : Bool} {cs : List Value} {x : DataW H × List MemPlace} (h : DataW.trod enc Tryz.prog w base spare held fuel 29 cs = some x) (hz : ∀ n ∈ x.1.weights Tryz.prog 29, n ≤ reachBytes) :
    ∃ fo cap F, cs = [.slice fo F.length cap] ∧ FIn w fo cap F := by
  rcases open_slice Tryz.underlying29 h with ⟨rfl, rfl⟩ | ⟨a, len, cap, m, n, D, Pl, rfl, hb, hl, hm, hmm, rfl, hx⟩
  · exact ⟨none, 0, [], rfl, ⟨fun j p hj => by simp at hj, fun _ => ⟨rfl, rfl⟩, by simp, fun a e => by cases e⟩⟩
  · have hlm : len ≤ m := by rw [hmm]; split <;> omega
    have hsz : len * 16 ≤ reachBytes := by
      have := hz ((((List.range len).map D).length + ((List.range (m - len)).map fun j => D (len + j)).length) * Tryz.prog.bytesOf 165) (by simp [DataW.weights, Tryz.underlying29])
      rw [Tryz.bytes69] at this
      simp at this
      omega
    have hex : ∀ i, i < len → ∃ p : Int × Int, ∃ b o, some a = some (⟨b, o, none⟩ : Addr) ∧ w.cell? ⟨b, o + i * 2, none⟩ = some (.int .i64 p.1) ∧ w.cell? ⟨b, o + i * 2 + 1, none⟩ = some (.int .i64 p.2) := by
      intro i hi
      rw [Tryz.cells69] at hx
      have key : ∀ i, i < len → ∃ K A : Int, w.cell? (a.add (i * 2)) = some (.int .i64 K) ∧ w.cell? ((a.add (i * 2)).add 1) = some (.int .i64 A) := by
        intro i hi
        obtain ⟨cs', hc, ht⟩ := hx i (by omega)
        obtain ⟨_, hlen, hcell⟩ := World.cells?_some hc
        obtain ⟨K, A, rfl⟩ := open_fate ht
        refine ⟨K, A, ?_, ?_⟩
        · have := hcell 0 (by omega); simpa [Addr.add] using this
        · have := hcell 1 (by omega); simpa using this
      obtain ⟨K0, A0, k0, _⟩ := key 0 (by omega)
      have ha : a = ⟨a.block, a.off, none⟩ := addr_plain (by simpa [Addr.add] using k0) (fun _ _ _ => trivial) ⟨_, _, rfl⟩
      obtain ⟨K, A, k1, k2⟩ := key i hi
      refine ⟨(K, A), a.block, a.off, by rw [← ha], ?_, ?_⟩
      · rw [ha, Addr.add_lit] at k1; exact k1
      · rw [ha, Addr.add_lit, Addr.add_lit] at k2; exact k2
    obtain ⟨F, hF1, hF2⟩ : ∃ F : List (Int × Int), F.length = len ∧ FatesAt w (some a) F := by
      clear hsz hx hz h hlm hmm hl
      induction len with
      | zero => exact ⟨[], rfl, fun j p hj => by simp at hj⟩
      | succ k ih =>
        obtain ⟨F, f1, f2⟩ := ih (fun i hi => hex i (by omega))
        obtain ⟨p, g1⟩ := hex k (by omega)
        refine ⟨F ++ [p], by simp [f1], ?_⟩
        intro j q hj
        by_cases hjk : j < F.length
        · rw [List.getElem?_append_left hjk] at hj; exact f2 j q hj
        · have hlt := (List.getElem?_eq_some_iff.1 hj).1
          have hjk2 : j = k := by simp at hlt; omega
          subst hjk2
          rw [List.getElem?_append_right (by omega), f1, Nat.sub_self] at hj
          simp at hj
          subst hj
          exact g1
    exact ⟨some a, cap, F, by rw [hF1], hF2, (fun e => by cases e), by rw [hF1]; unfold reachBytes at hsz; omega, fates_lt hF2⟩
theorem weights_all_mem {P : Program} {e : TypeId} {l : List (DataW H)} {d : DataW H} (hd : d ∈ l) : ∀ n ∈ d.weights P e, n ∈ DataW.weightsAll P e l := by
  induction l with
  | nil => cases hd
  | cons x r ih =>
    intro n hn
    simp only [DataW.weightsAll, List.mem_append]
    rcases List.mem_cons.1 hd with rfl | hd
    · exact Or.inl hn
    · exact Or.inr (ih hd n hn)
end
end Go.Proofs.YtonokaelbpfjnaaGreatDoor
