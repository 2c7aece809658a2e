/- Texts joined: FCStep, FCMore, FHd0, FHd1, FLent. -/
import Derived.Test.YtonokaelbpfjnaaGreatDoorJhAp
import Derived.Test.YtonokaelbpfjnaaGreatDoorChecked
import Derived.Deep.LoopGhost
import Derived.Deep.RegionHeld3
import Derived.Deep.DrawnRows
import Derived.Deep.QuietTactic
import Derived.Deep.RegionWith
import Derived.BigQuiet
import Derived.Deep.OwnRows
import Derived.Test.YtonokaelbpfjnaaGreatDoorJhAo
import Derived.Lib.SlBytesConst
import Derived.Lib.SmallJoins
/- The contracts of crc's step, times, moved, Join. -/
namespace Go.Proofs.YtonokaelbpfjnaaGreatDoor.Fm.Cr
open Go.RowKit
attribute [local go_sem ↓] Go.wp_at_zero Go.wp_at_succ

/-- Twice a number of 32 bits, its highest bit lost. -/
theorem shl_u32 (a : Nat) : IntKind.u32.wrap ((a : Int) * 2) = ((a * 2 % 4294967296 : Nat) : Int) := by rw [wrap_u32]; omega

set_option maxHeartbeats 400000 in
theorem step_any (r : Nat) (hr : r < 4294967296) (w : World) : Calls Tryz.prog 178 #[.int .u32 (r : Int)] w fun e w' => e = .returned (.int .u32 ((Poly.step r : Nat) : Int)) ∧ w' = w := by
  have hand := bits_and_u32 r 1 hr (by decide)
  rw [and_one] at hand
  have hxor : bits .xor .u32 ((r : Int) / 2) 3988292384 = ((r / 2 ^^^ 3988292384 : Nat) : Int) := bits_xor_u32 (r / 2) 3988292384 (by omega) (by decide)
  by_cases h : r % 2 = 1
  · rw [show Poly.step r = r / 2 ^^^ 3988292384 by simp [Poly.step, h]]
    generalize r / 2 ^^^ 3988292384 = y at *
    have hand : bits .and .u32 (r : Int) 1 = 1 := by rw [h] at hand; exact hand
    clear h
    go_enter Tryz.func178, Tryz.ntmps178
    go_wp2
    go_ret
    exact ⟨rfl, rfl⟩
  · rw [show Poly.step r = r / 2 by simp [Poly.step, h]]
    have hand : bits .and .u32 (r : Int) 1 = 0 := by rw [show r % 2 = 0 by omega] at hand; exact hand
    clear h hxor
    go_enter Tryz.func178, Tryz.ntmps178
    go_wp2
    go_ret
    exact ⟨rfl, rfl⟩

theorem bits_and_i64 (a b : Nat) (ha : a < 9223372036854775808) (hb : b < 9223372036854775808) : bits .and .i64 (a : Int) (b : Int) = ((a &&& b : Nat) : Int) := by
  have hx : a &&& b < 2 ^ 63 := Nat.and_lt_two_pow _ (by omega)
  have h1 : (BitVec.ofInt 64 (a : Int)).toNat = a := by
    rw [BitVec.ofInt_natCast, BitVec.toNat_ofNat]; exact Nat.mod_eq_of_lt (by omega)
  have h2 : (BitVec.ofInt 64 (b : Int)).toNat = b := by
    rw [BitVec.ofInt_natCast, BitVec.toNat_ofNat]; exact Nat.mod_eq_of_lt (by omega)
  show IntKind.i64.wrap ((BitVec.ofInt 64 (a : Int) &&& BitVec.ofInt 64 (b : Int)).toNat : Int) = _
  rw [BitVec.toNat_and, h1, h2, IntKind.wrap_i64]
  omega

/-- Many steps at once, ahead or back: what a product with a number does. -/
structure Goes (F : Nat → Nat → Nat) : Prop where
  zero : ∀ r, F 0 r = r
  add : ∀ j k r, F (j + k) r = F j (F k r)
  lt : ∀ k r, r < 4294967296 → F k r < 4294967296
  mul : ∀ k r, r < 4294967296 → Poly.mul r (F k 2147483648) = F k r
theorem goes_ahead : Goes Poly.steps := ⟨fun _ => rfl, Poly.steps_add, fun k _ h => Poly.steps_lt k h, Poly.mul_steps⟩
theorem goes_back : Goes Poly.unsteps := ⟨fun _ => rfl, Poly.unsteps_add, fun k _ h => Poly.unsteps_lt k h, Poly.mul_unsteps⟩

/-- What Join answers. -/
def joinN (a b : Nat) (n : Int) : Nat := Poly.steps (8 * n.toNat) a ^^^ b
theorem joinN_lt {a b : Nat} (n : Int) (ha : a < 4294967296) (hb : b < 4294967296) : joinN a b n < 4294967296 := Poly.xor_lt32 (Poly.steps_lt _ ha) hb
end Go.Proofs.YtonokaelbpfjnaaGreatDoor.Fm.Cr
/- The contracts of crc's More and Sum. -/
namespace Go.Proofs.YtonokaelbpfjnaaGreatDoor.Fm.Cr
open Go.RowKit
attribute [local go_sem ↓] Go.wp_at_zero Go.wp_at_succ

/-- The bytes xs lie where ao leads. -/
def At (w : World) (ao : Option Addr) (xs : List Nat) : Prop := ∀ j u, xs[j]? = some u → ∃ a, ao = some a ∧ w.cell? (a.add j) = some (.int .u8 ((u : Nat) : Int))
theorem addr_add_block (a : Addr) (j : Nat) : (a.add j).block = a.block := by unfold Addr.add; split <;> rfl
theorem At.nil (w : World) (ao : Option Addr) : At w ao [] := fun j u h => by simp at h
theorem At.kept {w w' : World} {ao : Option Addr} {xs : List Nat} {row : Option Nat} (h : At w ao xs) (hg : w.grownBy w' row) (hr : ∀ a, ao = some a → some a.block ≠ row) : At w' ao xs := by
  intro j u hu
  obtain ⟨a, ha, hcell⟩ := h j u hu
  exact ⟨a, ha, hg.cell hcell (by rw [addr_add_block]; exact hr a ha)⟩
theorem At.grown {w w' : World} {ao : Option Addr} {xs : List Nat} (h : At w ao xs) (hg : w.grownBy w' none) : At w' ao xs := h.kept hg (by simp)
/-- They are bytes. -/
def Bytes (xs : List Nat) : Prop := ∀ x ∈ xs, x < 256

theorem run_take {xs : List Nat} {j : Nat} (hj : j < xs.length) (r : Nat) : Poly.run r (xs.take (j + 1)) = Poly.byteStep (Poly.run r (xs.take j)) xs[j] := by
  rw [List.take_succ_eq_append_getElem hj, Poly.run_append]; rfl
theorem Bytes.take {xs : List Nat} (h : Bytes xs) (j : Nat) : Bytes (xs.take j) := fun x hx => h x (List.mem_of_mem_take hx)
theorem byteStep_nib (r x : Nat) : Poly.byteStep r x = Poly.steps 4 (Poly.steps 4 (r ^^^ x)) := Poly.steps_add 4 4 _

set_option maxHeartbeats 1000000 in
theorem more_any (s : Nat) (ao : Option Addr) (n c : Nat) (xs : List Nat) (w : World) (hs : s < 4294967296) (hn : xs.length = n) (hx : Bytes xs) (hat : At w ao xs) (hT : Tab w) (hm : n ≤ 4611686018427387904) :
    Calls Tryz.prog 107 #[.int .u32 (s : Int), .slice ao n c] w fun e w' => e = .returned (.int .u32 ((Poly.more s xs : Nat) : Int)) ∧ w' = w := by
  have hinv : bits .xor .u32 IntKind.u32.max (s : Int) = ((4294967295 ^^^ s : Nat) : Int) := bits_xor_u32 4294967295 s (by decide) hs
  have hrl : 4294967295 ^^^ s < 4294967296 := Poly.xor_lt32 (by decide) hs
  have hM : Poly.more s xs = 4294967295 ^^^ Poly.run (4294967295 ^^^ s) xs := by rw [Poly.more, Nat.xor_comm]
  obtain ⟨M, hM2⟩ : ∃ M, M = Poly.more s xs := ⟨_, rfl⟩
  rw [← hM2]
  rw [← hM2] at hM
  generalize 4294967295 ^^^ s = r0 at *
  have HM := hide hM
  clear hM hM2
  have HA := hide (And.intro hn (And.intro hx (And.intro hat hT)))
  clear hn hx hat hT
  go_enter Tryz.func107, Tryz.ntmps107
  go_wp2
  go_loopg [5, 7, 12] n (fun k r y i wr => ∃ j : Nat, k + j = n ∧ i = .int .i64 j ∧ r = .int .u32 ((Poly.run r0 (xs.take j) : Nat) : Int) ∧ wr = w)
  case atStart => exact ⟨0, by omega, rfl, rfl, rfl⟩
  case round =>
    obtain ⟨j, hkj, rfl, rfl, rfl⟩ := hrel
    obtain ⟨hn, hx, hat, hT⟩ := HA.out
    have hR := Poly.run_lt (xs.take j) hrl (hx.take j)
    by_cases hk : 0 < gk
    · have hj : j < xs.length := by omega
      obtain ⟨a, rfl, hca⟩ := hat j xs[j] (by simp [hj])
      have hb := hx xs[j] (List.getElem_mem hj)
      have HR := hide (run_take hj r0)
      rw [byteStep_nib] at HR
      generalize xs[j] = x at *
      generalize Poly.run r0 (xs.take j) = R at *
      have h1 := bits_xor_u32 R x hR (by omega)
      have hl1 := Poly.xor_lt32 hR (show x < 4294967296 by omega)
      generalize R ^^^ x = R1 at *
      have h2 : bits .and .u32 (R1 : Int) 15 = ((R1 % 16 : Nat) : Int) := by have := bits_and_u32 R1 15 hl1 (by decide); rw [and_15] at this; exact this
      have hc1 := hT (R1 % 16) (by omega)
      have h3 : bits .xor .u32 ((R1 : Int) / 16) ((Poly.steps 4 (R1 % 16) : Nat) : Int) = ((Poly.steps 4 R1 : Nat) : Int) := by
        rw [← Poly.nib R1]; exact bits_xor_u32 (R1 / 16) _ (by omega) (Poly.steps_lt 4 (by omega))
      have hl2 := Poly.steps_lt 4 hl1
      have hi1 : ((R1 % 16 : Nat) : Int) < 16 := by omega
      generalize Poly.steps 4 (R1 % 16) = t1 at *
      generalize R1 % 16 = i1 at *
      generalize Poly.steps 4 R1 = R2 at *
      have h4 : bits .and .u32 (R2 : Int) 15 = ((R2 % 16 : Nat) : Int) := by have := bits_and_u32 R2 15 hl2 (by decide); rw [and_15] at this; exact this
      have hc2 := hT (R2 % 16) (by omega)
      have h5 : bits .xor .u32 ((R2 : Int) / 16) ((Poly.steps 4 (R2 % 16) : Nat) : Int) = ((Poly.steps 4 R2 : Nat) : Int) := by
        rw [← Poly.nib R2]; exact bits_xor_u32 (R2 / 16) _ (by omega) (Poly.steps_lt 4 (by omega))
      have hi2 : ((R2 % 16 : Nat) : Int) < 16 := by omega
      generalize Poly.steps 4 (R2 % 16) = t2 at *
      generalize R2 % 16 = i2 at *
      generalize Poly.steps 4 R2 = R3 at *
      have hj1 : (j : Int) < (n : Int) := by omega
      clear hn hx hat hT HA hj
      go_wp2
      go_roundg (gk - 1)
      case measure => omega
      case rel => exact ⟨j + 1, by omega, by go_num, by rw [HR.out], rfl⟩
    · have hj : j = n := by omega
      subst hj
      rw [List.take_of_length_le (by omega)] at hR ⊢
      have h1 : bits .xor .u32 IntKind.u32.max ((Poly.run r0 xs : Nat) : Int) = (M : Int) := by rw [HM.out]; exact bits_xor_u32 4294967295 _ (by decide) hR
      clear HM
      generalize Poly.run r0 xs = z at *
      clear hn hx hat hT HA
      go_wp2
      go_ret
      exact ⟨rfl, rfl⟩

set_option maxHeartbeats 400000 in
theorem sum_any (ao : Option Addr) (n c : Nat) (xs : List Nat) (w : World) (hn : xs.length = n) (hx : Bytes xs) (hat : At w ao xs) (hT : Tab w) (hm : n ≤ 4611686018427387904) :
    Calls Tryz.prog 60 #[.slice ao n c] w fun e w' => e = .returned (.int .u32 ((Poly.more 0 xs : Nat) : Int)) ∧ w' = w := by
  have HM := hide (more_any 0 ao n c xs w (by decide) hn hx hat hT hm)
  generalize Poly.more 0 xs = M at *
  clear hn hx hat hT hm
  go_enter Tryz.func60, Tryz.ntmps60
  go_wp2_with fail
  refine HM.out.mono ?_
  rintro e w' ⟨rfl, rfl⟩
  go_wp2
  go_ret
  exact ⟨rfl, rfl⟩
end Go.Proofs.YtonokaelbpfjnaaGreatDoor.Fm.Cr
/- Headers as bytes; mayBe. -/
namespace Go.Proofs.YtonokaelbpfjnaaGreatDoor.Fm
open Go.RowKit
attribute [local go_sem ↓] Go.wp_at_zero Go.wp_at_succ
/-- Bytes as natural numbers. -/
def nats (xs : List Int) : List Nat := xs.map Int.toNat
/-- The sum of bytes. -/
def sumI (xs : List Int) : Int := ((Cr.Poly.more 0 (nats xs) : Nat) : Int)
theorem nats_length (xs : List Int) : (nats xs).length = xs.length := by simp [nats]
theorem nats_lt {xs : List Int} (h : Byt xs) : ∀ x ∈ nats xs, x < 256 := by
  intro x hx
  simp only [nats, List.mem_map] at hx
  obtain ⟨y, hy, rfl⟩ := hx
  have := h y hy
  omega
theorem sumI_lt {xs : List Int} (h : Byt xs) : 0 ≤ sumI xs ∧ sumI xs < 4294967296 := by
  have := Cr.Poly.more_lt (s := 0) (nats xs) (by decide) (nats_lt h)
  unfold sumI
  omega

/-- The table of crc. -/
abbrev Tab (w : World) : Prop := Cr.Tab w

theorem At.nats {w : World} {ao : Option Addr} {xs : List Int} (h : At w ao xs) (hB : Byt xs) : Cr.At w ao (nats xs) := by
  intro j u hu
  simp only [Go.Proofs.YtonokaelbpfjnaaGreatDoor.Fm.nats, List.getElem?_map] at hu
  cases hj : xs[j]? with
  | none => simp [hj] at hu
  | some x =>
    simp [hj] at hu
    obtain ⟨a, ha, hc⟩ := h j x hj
    refine ⟨a, ha, ?_⟩
    have hx := hB x (List.mem_of_getElem? hj)
    rw [hc, ← hu]
    have : ((x.toNat : Nat) : Int) = x := by omega
    rw [this]

theorem sum_any (ao : Option Addr) (n c : Nat) (xs : List Int) (w : World) (hn : xs.length = n) (hx : Byt xs) (hat : At w ao xs) (hT : Tab w) (hm : n ≤ 4611686018427387904) :
    Calls Tryz.prog 60 #[.slice ao n c] w fun e w' => e = .returned (.int .u32 (sumI xs)) ∧ w' = w :=
  Cr.sum_any ao n c (nats xs) w (by rw [nats_length, hn]) (nats_lt hx) (hat.nats hx) hT hm


/-- A header: generation, covered, length, sum. -/
structure Hd where
  g : Int
  c : Int
  n : Int
  s : Int
/-- Its numbers are such. -/
structure Hd.Ok (h : Hd) : Prop where
  g0 : 0 ≤ h.g
  g1 : h.g < 18446744073709551616
  c0 : 0 ≤ h.c
  c1 : h.c < 18446744073709551616
  n0 : -9223372036854775808 ≤ h.n
  n1 : h.n ≤ 9223372036854775807
  s0 : 0 ≤ h.s
  s1 : h.s < 4294967296
/-- It may be. -/
def Hd.May (h : Hd) : Prop := 1 ≤ h.g ∧ 0 ≤ h.n ∧ h.n ≤ 67108864
instance (h : Hd) : Decidable h.May := by unfold Hd.May; exact inferInstance
def Hd.head (h : Hd) : List Int := [71, 65, 78, 71] ++ leB h.g 8 ++ leB h.c 8 ++ leB h.n 4 ++ leB h.s 4
def Hd.out (h : Hd) : List Int := h.head ++ leB (sumI h.head) 4
theorem Hd.head_length (h : Hd) : h.head.length = 28 := by simp [Hd.head, leB_length]
theorem Hd.out_length (h : Hd) : h.out.length = 32 := by simp [Hd.out, leB_length, h.head_length]
theorem leB_byt (N : Int) (k : Nat) : Byt (leB N k) := by
  intro x hx
  unfold leB at hx
  obtain ⟨j, _, rfl⟩ := List.mem_map.1 hx
  exact ⟨Int.emod_nonneg _ (by decide), Int.emod_lt_of_pos _ (by decide)⟩
theorem byt_append {xs ys : List Int} (h : Byt xs) (g : Byt ys) : Byt (xs ++ ys) := fun x hx => (List.mem_append.1 hx).elim (h x) (g x)
theorem magic_byt : Byt [71, 65, 78, 71] := by intro x hx; simp at hx; omega
theorem Hd.head_byt (h : Hd) : Byt h.head := byt_append (byt_append (byt_append (byt_append magic_byt (leB_byt _ _)) (leB_byt _ _)) (leB_byt _ _)) (leB_byt _ _)
theorem Hd.out_byt (h : Hd) : Byt h.out := byt_append h.head_byt (leB_byt _ _)
def hdV (h : Hd) : Value := .agg #[.int .u64 h.g, .int .u64 h.c, .int .i64 h.n, .int .u32 h.s]
def hdC (h : Hd) : List Value := [.int .u64 h.g, .int .u64 h.c, .int .i64 h.n, .int .u32 h.s]
set_option maxHeartbeats 1000000 in
theorem mayBe_any (h : Hd) (w : World) : Calls Tryz.prog 56 #[hdV h] w fun e w' => e = .returned (.bool (decide h.May)) ∧ w.grownBy w' none := by
  unfold hdV
  have hb : (w.alloc (.cells #[.int .u64 h.g, .int .u64 h.c, .int .i64 h.n, .int .u32 h.s] 35)).heap[w.heap.size]? = some (.cells [Value.int .u64 h.g, .int .u64 h.c, .int .i64 h.n, .int .u32 h.s].toArray 35 (0, 0)) := heap_alloc_new w _
  have c0 := cell_row hb 0
  have c2 := cell_row hb 2
  simp only [List.getElem?_cons_zero, List.getElem?_cons_succ] at c0 c2
  have HG := hide (World.grownBy_alloc w (.cells #[.int .u64 h.g, .int .u64 h.c, .int .i64 h.n, .int .u32 h.s] 35) none)
  clear hb
  go_enter Tryz.func56, Tryz.ntmps56
  go_wp2
  all_goals
    go_ret
    refine ⟨?_, HG.out⟩
    first
      | (show Ending.returned (Value.bool (decide (h.n ≤ 67108864))) = Ending.returned (Value.bool (decide h.May))
         rw [decide_eq_decide.2 (show h.n ≤ 67108864 ↔ h.May by unfold Hd.May; omega)])
      | (show Ending.returned (Value.bool false) = Ending.returned (Value.bool (decide h.May))
         rw [decide_eq_false (show ¬ h.May by unfold Hd.May; omega)])
end Go.Proofs.YtonokaelbpfjnaaGreatDoor.Fm
/- Header. -/
namespace Go.Proofs.YtonokaelbpfjnaaGreatDoor.Fm
open Go.RowKit
attribute [local go_sem ↓] Go.wp_at_zero Go.wp_at_succ
/-- Inside Header: the header in its box B, the Writer X. -/
structure HdS (w wr : World) (B X : Nat) (h : Hd) (bs : List Int) : Prop where
  box : wr.heap[B]? = some (.cells (hdC h).toArray 35 (0, 0))
  wra : WrAt wr X bs
  ne : B ≠ X
  low : w.heap.size ≤ B ∧ w.heap.size ≤ X
  gr : w.grownBy wr none
theorem HdS.next {w wr wr' : World} {B X : Nat} {h : Hd} {bs bs' : List Int} (s : HdS w wr B X h bs) (hW : WrAt wr' X bs') (hg : wr.grownBy wr' (some X)) : HdS w wr' B X h bs' :=
  ⟨(hg.block B (row_lt s.box) (by simp; exact s.ne)).trans s.box, hW, s.ne, s.low, grown_then s.gr hg (fun j e => by cases e; exact Or.inl s.low.2)⟩
theorem HdS.grown {w wr wr' : World} {B X : Nat} {h : Hd} {bs : List Int} (s : HdS w wr B X h bs) (hg : wr.grownBy wr' none) : HdS w wr' B X h bs :=
  ⟨(hg.block B (row_lt s.box) (by simp)).trans s.box, s.wra.kept hg (by simp) (NoBlock.none _), s.ne, s.low, grown_trans s.gr hg⟩
theorem HdS.cells {w wr : World} {B X : Nat} {h : Hd} {bs : List Int} (s : HdS w wr B X h bs) : wr.cell? ⟨B, 0, none⟩ = some (.int .u64 h.g) ∧ wr.cell? ⟨B, 1, none⟩ = some (.int .u64 h.c) ∧ wr.cell? ⟨B, 2, none⟩ = some (.int .i64 h.n) ∧ wr.cell? ⟨B, 3, none⟩ = some (.int .u32 h.s) :=
  ⟨cell_row s.box 0, cell_row s.box 1, cell_row s.box 2, cell_row s.box 3⟩
theorem hd_parts (h : Hd) : [] ++ [71, 65, 78, 71] ++ leB h.g 8 ++ leB h.c 8 ++ leB h.n 4 ++ leB h.s 4 = h.head := by simp [Hd.head]
set_option maxRecDepth 20000 in
set_option maxHeartbeats 4000000 in
theorem header_any (h : Hd) (hok : h.Ok) (hm : h.May) (w : World) (hT : Tab w) (hw : 0 < w.heap.size) :
    Calls Tryz.prog 11 #[hdV h] w fun r w' => ∃ g, r = .returned (.tuple #[.slice (some ⟨g, 0, none⟩) 32 32, .int .i64 0]) ∧ w.heap.size ≤ g ∧ w'.heap[g]? = some (.cells (h.out.map (Value.int .u8)).toArray 5 (0, 0)) ∧ w.grownBy w' none := by
  have HM := hide (And.intro hok (And.intro hm (And.intro hT hw)))
  have hmy := hide (mayBe_any h)
  rw [show decide h.May = true from decide_eq_true hm] at hmy
  clear hok hT hw hm
  unfold hdV at hmy ⊢
  have hb : (w.alloc (.cells #[.int .u64 h.g, .int .u64 h.c, .int .i64 h.n, .int .u32 h.s] 35)).heap[w.heap.size]? = some (.cells (hdC h).toArray 35 (0, 0)) := heap_alloc_new w _
  have c0 : (w.alloc (.cells #[.int .u64 h.g, .int .u64 h.c, .int .i64 h.n, .int .u32 h.s] 35)).cell? ⟨w.heap.size, 0, none⟩ = some (.int .u64 h.g) := cell_row hb 0
  have c1 : (w.alloc (.cells #[.int .u64 h.g, .int .u64 h.c, .int .i64 h.n, .int .u32 h.s] 35)).cell? ⟨w.heap.size, 1, none⟩ = some (.int .u64 h.c) := cell_row hb 1
  have c2 : (w.alloc (.cells #[.int .u64 h.g, .int .u64 h.c, .int .i64 h.n, .int .u32 h.s] 35)).cell? ⟨w.heap.size, 2, none⟩ = some (.int .i64 h.n) := cell_row hb 2
  have c3 : (w.alloc (.cells #[.int .u64 h.g, .int .u64 h.c, .int .i64 h.n, .int .u32 h.s] 35)).cell? ⟨w.heap.size, 3, none⟩ = some (.int .u32 h.s) := cell_row hb 3
  have HG := hide (And.intro hb (World.grownBy_alloc w (.cells #[.int .u64 h.g, .int .u64 h.c, .int .i64 h.n, .int .u32 h.s] 35) none))
  clear hb
  go_enter Tryz.func11, Tryz.ntmps11
  go_wp2_with fail
  generalize (w.alloc (.cells #[.int .u64 h.g, .int .u64 h.c, .int .i64 h.n, .int .u32 h.s] 35)) = w1 at *
  refine (hmy.out w1).mono ?_
  rintro e w2 ⟨rfl, g2⟩
  have P2 : Hid (HdS w (w2.alloc (.cells Tryz.zeroCells97 97)) w.heap.size w2.heap.size h []) := by
    have hw := wr_zero w2
    have g3 := World.grownBy_alloc w2 (.cells Tryz.zeroCells97 97) none
    have g4 := grown_trans g2 g3
    have h5 := row_lt HG.out.1
    have h6 := g2.size
    exact ⟨(g4.block _ h5 (by simp)).trans HG.out.1, hw, by omega, ⟨Nat.le_refl _, Nat.le_trans HG.out.2.size h6⟩, grown_trans HG.out.2 g4⟩
  have hcv := Go.Joins.run_convert_bytes_const_at (P := Tryz.prog) (w2.alloc (.cells Tryz.zeroCells97 97)) 36 5 #[.int .u8 71, .int .u8 65, .int .u8 78, .int .u8 71] 4 4 (w2.heap.size + 1) (by simp) Tryz.underlying36 Tryz.underlying5
  have g3 := World.grownBy_alloc (w2.alloc (.cells Tryz.zeroCells97 97)) (.cells #[.int .u8 71, .int .u8 65, .int .u8 78, .int .u8 71] 5 (4, 5)) none
  have hat : At ((w2.alloc (.cells Tryz.zeroCells97 97)).alloc (.cells #[.int .u8 71, .int .u8 65, .int .u8 78, .int .u8 71] 5 (4, 5))) (some ⟨w2.heap.size + 1, 0, none⟩) [71, 65, 78, 71] := by
    intro j u hu
    refine ⟨_, rfl, ?_⟩
    rw [Addr.add_lit, Nat.zero_add, Go.Joins.cell_alloc_mark_at _ _ _ _ _ _ (by simp)]
    match j, hu with
    | 0, h => cases h; rfl
    | 1, h => cases h; rfl
    | 2, h => cases h; rfl
    | 3, h => cases h; rfl
    | j + 4, h => simp at h
  have hpt := put_any w2.heap.size 4 [] [71, 65, 78, 71] (some ⟨w2.heap.size + 1, 0, none⟩) 4 _ (P2.out.grown g3).wra rfl hat (fun a e => by cases e; simp) (by omega) (by unfold maxLen; omega) (by simp)
  have P3 := hide (And.intro (P2.out.grown g3) hpt)
  clear c0 c1 c2 c3 g2 HG hmy hat hpt g3 P2
  go_wp2_with fail
  clear hcv
  generalize ((w2.alloc (.cells Tryz.zeroCells97 97)).alloc (.cells #[.int .u8 71, .int .u8 65, .int .u8 78, .int .u8 71] 5 (4, 5))) = w3 at *
  generalize w2.heap.size = X at *
  refine P3.out.2.mono ?_
  rintro e w4 ⟨rfl, hW, hg⟩
  have P4 := hide (P3.out.1.next hW hg)
  clear hW hg P3
  generalize w.heap.size = B at *
  obtain ⟨c0, c1, c2, c3⟩ := P4.out.cells
  go_wp2_with fail
  refine (eight_any X _ h.g w4 P4.out.wra HM.out.1.g0 HM.out.1.g1 (by simp)).mono ?_
  rintro e w5 ⟨rfl, hW, hg⟩
  have P5 := hide (P4.out.next hW hg)
  clear hW hg P4 c0 c1 c2 c3
  obtain ⟨c0, c1, c2, c3⟩ := P5.out.cells
  go_wp2_with fail
  refine (eight_any X _ h.c w5 P5.out.wra HM.out.1.c0 HM.out.1.c1 (by simp [leB_length])).mono ?_
  rintro e w6 ⟨rfl, hW, hg⟩
  have P6 := hide (P5.out.next hW hg)
  clear hW hg P5 c0 c1 c2 c3
  have hwn : IntKind.u32.wrap h.n = h.n := by rw [IntKind.wrap_u32]; have := HM.out.2.1; unfold Hd.May at this; omega
  obtain ⟨c0, c1, c2, c3⟩ := P6.out.cells
  go_wp2_with fail
  refine (four_any X _ h.n w6 P6.out.wra HM.out.2.1.2.1 (by have := HM.out.2.1; unfold Hd.May at this; omega) (by simp [leB_length])).mono ?_
  rintro e w7 ⟨rfl, hW, hg⟩
  have P7 := hide (P6.out.next hW hg)
  clear hW hg P6 c0 c1 c2 c3
  obtain ⟨c0, c1, c2, c3⟩ := P7.out.cells
  go_wp2_with fail
  refine (four_any X _ h.s w7 P7.out.wra HM.out.1.s0 HM.out.1.s1 (by simp [leB_length])).mono ?_
  rintro e w8 ⟨rfl, hW, hg⟩
  have P8 := hide (P7.out.next hW hg)
  clear hW hg P7 c0 c1 c2 c3
  have P9 : Hid (HdS w w8 B X h h.head) := by have := P8.out; rw [hd_parts] at this; exact this
  clear P8 hwn
  go_wp2_with fail
  refine (out_any X h.head w8 P9.out.wra (by rw [h.head_length]; omega)).mono ?_
  rintro e w9 ⟨rfl, hr, hg⟩
  have P10 := hide (P9.out.grown hg)
  have HR := hide hr
  have T10 : Hid (Tab w9) := HM.out.2.2.1.grown P10.out.gr
  clear hr hg P9
  go_wp2_with fail
  refine (sum_any _ _ _ h.head w9 rfl h.head_byt (at_row HR.out) T10.out (by rw [h.head_length]; omega)).mono ?_
  rintro e wx ⟨rfl, hwx⟩
  obtain rfl := hwx.symm
  have hs := sumI_lt h.head_byt
  go_wp2_with fail
  refine (four_any X h.head (sumI h.head) w9 P10.out.wra hs.1 hs.2 (by rw [h.head_length]; omega)).mono ?_
  rintro e w11 ⟨rfl, hW, hg⟩
  have P11 := hide (P10.out.next hW hg)
  clear hW hg P10 HR T10
  go_wp2_with fail
  refine (out_any X _ w11 P11.out.wra (by simp [leB_length, h.head_length])).mono ?_
  rintro e w12 ⟨rfl, hr, hg⟩
  rw [show h.head ++ leB (sumI h.head) 4 = h.out from rfl] at hr ⊢
  rw [h.out_length]
  have HR := hide (And.intro hr hg)
  clear hr hg hs
  go_wp2
  go_ret2
  exact ⟨_, rfl, P11.out.gr.size, HR.out.1, grown_trans P11.out.gr HR.out.2⟩
end Go.Proofs.YtonokaelbpfjnaaGreatDoor.Fm
/- The contracts of the statements' own helpers for bytes that are lent: markByte, LentBytes, KeptBytes, OverBytes. -/
namespace Go.Proofs.YtonokaelbpfjnaaGreatDoor.Fm
open Go.RowKit
attribute [local go_sem ↓] Go.wp_at_zero Go.wp_at_succ

/-- The mark of a place. -/
def markB (k i : Int) : Int := IntKind.u64.wrap ((1000003 * (k + 7) + i) * 11400714819323198485) / 72057594037927936 % 256
theorem markB_byte (k i : Int) : 0 ≤ markB k i ∧ markB k i < 256 := by unfold markB; omega
set_option maxHeartbeats 400000 in
theorem mark_any (k i : Int) (w : World) (_hk0 : 0 ≤ k) (_hk : k ≤ 1000000) (_hi0 : 0 ≤ i) (_hi : i ≤ 1000000000000000000) :
    Calls Tryz.prog 64 #[.int .i64 k, .int .i64 i] w fun e w' => e = .returned (.int .u8 (markB k i)) ∧ w' = w := by
  go_enter Tryz.func64, Tryz.ntmps64
  go_wp2
  go_ret
  exact ⟨rfl, rfl⟩

/-- The first j marks. -/
def marks (k : Int) (j : Nat) : List Int := (List.range j).map fun (i : Nat) => markB k (i : Int)
theorem marks_length (k : Int) (j : Nat) : (marks k j).length = j := by simp [marks]
theorem marks_succ (k : Int) (j : Nat) : marks k (j + 1) = marks k j ++ [markB k (j : Int)] := by simp [marks, List.range_succ]
theorem marks_get (k : Int) (j i : Nat) (h : i < j) : (marks k j)[i]? = some (markB k (i : Int)) := by simp [marks, h]

theorem slice_to (ao : Option Addr) (len cap n : Nat) (h : n ≤ cap) (w : World) : (Instr.slice 36 (.slice ao len cap) none (some (.int .i64 (n : Int))) none).run Tryz.prog w = .ok (.slice ao n cap) w := by
  simp [Instr.slice, run_underlying Tryz.underlying36, Instr.sliceBounds, Instr.sliceBound, asIntOf, h]
  intro _; cases ao <;> simp [Addr.add]
theorem make_cap (n : Nat) (h : n ≤ 140737488355328) (w : World) : (Instr.makeSlice 36 (.int .i64 0) (.int .i64 ((n : Int) + 12))).run Tryz.prog w = .ok (.slice (some ⟨w.heap.size, 0, none⟩) 0 (n + 12)) (w.alloc (.cells (zrow (n + 12)).toArray 5)) := by
  obtain ⟨i0, hi, hz0, hz1, hz2⟩ := info_parts Tryz.info5
  rw [run_make (P := Tryz.prog) (w := w) 36 5 i0 (.int .u8 0) Tryz.underlying36 hi hz0 .i64 .i64 0 ((n : Int) + 12) (by omega) (by omega) (by rw [hz2]; omega) (by omega), hz1]
  have e : ((n : Int) + 12).toNat = n + 12 := by omega
  rw [e, Nat.mul_one]
  show Result.ok _ (w.alloc (.cells (madeCells #[.int .u8 0] (n + 12)) 5)) = _
  rw [made_zrow]
  rfl

/-- Bytes that were lent: they, and twelve marks behind their end. -/
def LentAt (w : World) (B : Nat) (v : Value) (xs : List Int) : Prop :=
  ∃ g cap, v = .slice (some ⟨g, 0, none⟩) xs.length cap ∧ w.ownsRow B 5 1 (.slice (some ⟨g, 0, none⟩) (xs.length + 12) cap) (xs.length + 12) ((xs ++ marks 1 12).map (Value.int .u8))

theorem cell_new (w : World) (v : Value) (t : TypeId) : (w.alloc (.cells #[v] t)).cell? ⟨w.heap.size, 0, none⟩ = some v := by
  rw [cell_of_row _ _ 0 #[v] t (0, 0) (heap_alloc_new w _)]; rfl

set_option maxHeartbeats 1000000 in
theorem lent_any (ao : Option Addr) (n cap : Nat) (xs : List Int) (w : World) (hn : xs.length = n) (hat : At w ao xs) (hnil : ao = none → n = 0 ∧ cap = 0) (hb : n ≤ 140737488355000) :
    Calls Tryz.prog 13 #[.slice ao n cap] w fun e w' => ∃ v, e = .returned v ∧ LentAt w' w.heap.size v xs ∧ w.grownBy w' none := by
  have Hn := hide hn
  have hmk := make_cap n (by omega)
  clear hn
  go_enter Tryz.func13, Tryz.ntmps13
  go_wp2_with (at_builtin; refine wpList_append_at rfl (.tmp 9) (.tmp 10) rfl w.heap.size (.slice (some ⟨w.heap.size, 0, none⟩) 0 (n + 12)) 0 [] rfl ?_ ao n cap xs rfl Hn.out ?_ hnil (by omega) (by simp) ?_)
  · exact World.ownsRow_made w _ (n + 12) (Nat.le_refl _) (by unfold maxLen; omega) (by simp [zrow])
  · exact hat.kept (World.grownBy_alloc w _ none) (by simp)
  · intro v1 w1 hown hg
    have G1 : Hid (w.grownBy w1 none) := grown_then (World.grownBy_alloc w _ none) hg (fun k e => by cases e; exact Or.inl (Nat.le_refl _))
    have HO := hide hown
    clear hown hg hmk
    go_wp2
    go_loopg [3, 4] 12 (fun k v i wr => ∃ j : Nat, k + j = 12 ∧ i = .int .i64 j ∧ wr.ownsRow w.heap.size 5 1 v (n + j) ((xs ++ marks 1 j).map (Value.int .u8)) ∧ w.grownBy wr none)
    case atStart => exact ⟨0, rfl, rfl, by simpa [marks] using HO.out, G1.out⟩
    case round =>
      obtain ⟨j, hkj, rfl, hown, hg⟩ := hrel
      by_cases hk : 0 < gk
      · have HO2 := hide (And.intro hown hg)
        clear hown hg
        go_wp2_with (first | (go_at_call 64; refine (mark_any 1 j _ (by omega) (by omega) (by omega) (by omega)).mono ?_; rintro e w' ⟨rfl, rfl⟩) | (at_builtin; refine wpList_append_at rfl (.tmp 16) (.tmp 19) rfl w.heap.size _ (n + j) ((xs ++ marks 1 j).map (Value.int .u8)) rfl (HO2.out.1.alloc _) (some ⟨_, 0, none⟩) 1 1 [markB 1 j] rfl rfl ?_ (fun e => by cases e) (by omega) ?_ ?_))
        · exact at_new _ [markB 1 j] _ rfl
        · have := HO2.out.2.size; simp; omega
        · intro v' w' hown' hg'
          go_wp2
          go_roundg (gk - 1)
          case measure => omega
          case rel =>
            refine ⟨j + 1, by omega, by go_num, ?_, ?_⟩
            · rw [marks_succ]; simpa [Nat.add_assoc] using hown'
            · refine grown_then (grown_trans HO2.out.2 (World.grownBy_alloc _ _ none)) hg' (fun k e => Or.inl (HO2.out.1.lt k e).1)
      · have hj : j = 12 := by omega
        subst hj
        obtain ⟨ao', cap', rfl, hl, hnc, hcm, hat', hnil', h5⟩ := own_at hown
        obtain ⟨a', rfl⟩ : ∃ a', ao' = some a' := by
          cases ao' with
          | none => have := (hnil' rfl).1; omega
          | some a' => exact ⟨a', rfl⟩
        have hst := slice_to (some a') (n + 12) cap' n (by omega)
        have HO2 := hide (And.intro hown hg)
        clear hown hg hl hcm hat' hnil' h5
        go_wp2
        go_ret
        obtain ⟨hown, hg⟩ := HO2.out
        rcases hown.2 with ⟨hx, _⟩ | ⟨g, cap2, cur, hv, hr⟩
        · cases hx
        · cases hv
          refine ⟨_, rfl, ⟨g, cap', by rw [Hn.out]; rfl, ?_⟩, hg⟩
          rw [Hn.out]; exact hown
theorem grown_drewN (w : World) (n : Nat) (row : Option Nat) : w.grownBy (w.drewN n) row := ⟨rfl, rfl, rfl, Nat.le_refl _, fun _ _ _ => rfl⟩
/-- What is lent, as bytes that lie somewhere: they and the marks. -/
theorem LentAt.all {w : World} {B : Nat} {v : Value} {xs : List Int} (h : LentAt w B v xs) : ∃ g cap, v = .slice (some ⟨g, 0, none⟩) xs.length cap ∧ xs.length + 12 ≤ cap ∧ cap ≤ maxLen ∧ B ≤ g ∧ g < w.heap.size ∧
    At w (some ⟨g, 0, none⟩) (xs ++ marks 1 12) ∧ ∃ cur, w.heap[g]? = some (.cells cur 5 (0, 0)) ∧ cur.size = cap := by
  obtain ⟨g, cap, rfl, hown⟩ := h
  obtain ⟨ao', cap', hv, hl, hnc, hcm, hat', hnil', h5⟩ := own_at hown
  cases hv
  obtain ⟨hb, hlt, _⟩ := h5 _ rfl
  rcases hown.2 with ⟨hx, _⟩ | ⟨g2, cap2, cur, hv, _, hc, _, _, hs, _⟩
  · cases hx
  · cases hv
    exact ⟨g, cap, rfl, hnc, hcm, hb, hlt, hat', cur, hc, by simpa using hs⟩
theorem LentAt.at {w : World} {B : Nat} {v : Value} {xs : List Int} (h : LentAt w B v xs) : ∃ g cap, v = .slice (some ⟨g, 0, none⟩) xs.length cap ∧ xs.length ≤ cap ∧ cap ≤ maxLen ∧ B ≤ g ∧ g < w.heap.size ∧ At w (some ⟨g, 0, none⟩) xs ∧ ∃ cur, w.heap[g]? = some (.cells cur 5 (0, 0)) := by
  obtain ⟨g, cap, hv, h1, h2, h3, h4, h5, cur, hc, _⟩ := h.all
  refine ⟨g, cap, hv, by omega, h2, h3, h4, ?_, cur, hc⟩
  intro j u hu
  exact h5 j u (by rw [List.getElem?_append_left (List.getElem?_eq_some_iff.1 hu).1, hu])

set_option maxHeartbeats 1000000 in
theorem kept_any (g cap : Nat) (bo : Option Addr) (n d : Nat) (xs : List Int) (w : World) (hn : xs.length = n) (hc1 : n + 12 ≤ cap) (_hc2 : cap ≤ maxLen) (ha : At w (some ⟨g, 0, none⟩) (xs ++ marks 1 12)) (hb : At w bo xs) (hm : n ≤ 140737488355328) :
    Calls Tryz.prog 17 #[.slice (some ⟨g, 0, none⟩) n cap, .slice bo n d] w fun e w' => e = .returned (.bool true) ∧ w.grownBy w' none := by
  have HA := hide (And.intro hn (And.intro ha hb))
  unfold maxLen at _hc2
  have hst := slice_to (some ⟨g, 0, none⟩) n cap (n + 12) hc1
  have hst2 : ∀ w', (Instr.slice 36 (.slice (some ⟨g, 0, none⟩) n cap) none (some (.int .i64 ((n : Int) + 12))) none).run Tryz.prog w' = .ok (.slice (some ⟨g, 0, none⟩) (n + 12) cap) w' := hst
  clear hn ha hb hst
  go_enter Tryz.func17, Tryz.ntmps17
  go_wp2
  go_loopg [6] (n + 12) (fun k i wr => ∃ j : Nat, k + j = n + 12 ∧ i = .int .i64 j ∧ w.grownBy wr none)
  case atStart => exact ⟨0, by omega, rfl, grown_refl _ _⟩
  case round =>
    obtain ⟨j, hkj, rfl, hg⟩ := hrel
    by_cases hk : 0 < gk
    · obtain ⟨hn, ha, hb⟩ := HA.out
      have hj0 : (0 : Int) ≤ (j : Int) := by omega
      have hj1 : (j : Int) < ((n + 12 : Nat) : Int) := by omega
      by_cases hj : j < n
      · have hjx : j < xs.length := by omega
        obtain ⟨a, e1, hca⟩ := ha j xs[j] (by rw [List.getElem?_append_left hjx]; simp [hjx])
        cases e1
        obtain ⟨b, rfl, hcb⟩ := hb j xs[j] (by simp [hjx])
        have hca' := hg.cell hca (by simp)
        have hcb' := hg.cell hcb (by simp)
        rw [Addr.add_lit, Nat.zero_add] at hca'
        generalize xs[j] = x at *
        have hjn : (j : Int) < (n : Int) := by omega
        have hd1 : decide (n ≤ j) = false := by simp; omega
        clear hn ha hb hca hcb hst2 hjx
        go_wp2
        go_quiet (fail)
        go_wp2
        go_roundg (gk - 1)
        case measure => omega
        case rel => exact ⟨j + 1, by omega, by go_num, grown_trans hg (grown_drewN _ _ _)⟩
      · obtain ⟨i, hji⟩ : ∃ i, j = n + i := ⟨j - n, by omega⟩
        have hi : i < 12 := by omega
        obtain ⟨a, e1, hca⟩ := ha j (markB 1 i) (by rw [hji, List.getElem?_append_right (by omega), hn, Nat.add_sub_cancel_left, marks_get 1 12 i hi])
        cases e1
        have hca' := hg.cell hca (by simp)
        rw [Addr.add_lit, Nat.zero_add] at hca'
        have hd1 : decide (j < n) = false := by simp; omega
        have hd3 : decide (n ≤ j) = true := by simp; omega
        have hmk : ∀ w, Calls Tryz.prog 64 #[.int .i64 1, .int .i64 (i : Int)] w fun e w' => e = .returned (.int .u8 (markB 1 i)) ∧ w' = w := fun w => mark_any 1 i w (by omega) (by omega) (by omega) (by omega)
        have Hmk := hide hmk
        have hsub : (j : Int) - (n : Int) = (i : Int) := by omega
        have HJ := hide hji
        have hwi : IntKind.i64.wrap (i : Int) = (i : Int) := by rw [IntKind.wrap_i64]; omega
        generalize markB 1 (i : Int) = x at *
        clear hn ha hb hca hst2 hmk hji
        go_wp2
        go_quiet ((go_at_call 64; exact Calls.quiet_of_same (Hmk.out _)))
        go_wp2
        go_roundg (gk - 1)
        case measure => omega
        case rel => exact ⟨j + 1, by omega, by go_num, grown_trans hg (grown_drewN _ _ _)⟩
    · have hj : j = n + 12 := by omega
      subst hj
      go_wp2
      go_ret
      exact ⟨rfl, hg⟩
end Go.Proofs.YtonokaelbpfjnaaGreatDoor.Fm
