/- The contracts of crc's More and Sum. -/
import Derived.Test.YtoeehajdmdmemabDoorCStep
namespace Go.Proofs.YtoeehajdmdmemabDoor.Cr
open Go.RowKit
attribute [local go_sem ↓] Go.wp_at_zero Go.wp_at_succ

/-- The bytes xs lie where ao leads. -/
def At (w : World) (ao : Option Addr) (xs : List Nat) : Prop := ∀ j u, xs[j]? = some u → ∃ a, ao = some a ∧ w.cell? (a.add j) = some (.int .u8 ((u : Nat) : Int))
theorem addr_add_block (a : Addr) (j : Nat) : (a.add j).block = a.block := by unfold Addr.add; split <;> rfl
theorem At.nil (w : World) (ao : Option Addr) : At w ao [] := fun j u h => by simp at h
theorem At.kept {w w' : World} {ao : Option Addr} {xs : List Nat} {row : Option Nat} (h : At w ao xs) (hg : w.grownBy w' row) (hr : ∀ a, ao = some a → some a.block ≠ row) : At w' ao xs := by
  intro j u hu
  obtain ⟨a, ha, hcell⟩ := h j u hu
  exact ⟨a, ha, hg.cell hcell (by rw [addr_add_block]; exact hr a ha)⟩
theorem At.grown {w w' : World} {ao : Option Addr} {xs : List Nat} (h : At w ao xs) (hg : w.grownBy w' none) : At w' ao xs := h.kept hg (by simp)
/-- They are bytes. -/
def Bytes (xs : List Nat) : Prop := ∀ x ∈ xs, x < 256

theorem run_take {xs : List Nat} {j : Nat} (hj : j < xs.length) (r : Nat) : Poly.run r (xs.take (j + 1)) = Poly.byteStep (Poly.run r (xs.take j)) xs[j] := by
  rw [List.take_succ_eq_append_getElem hj, Poly.run_append]; rfl
theorem Bytes.take {xs : List Nat} (h : Bytes xs) (j : Nat) : Bytes (xs.take j) := fun x hx => h x (List.mem_of_mem_take hx)
theorem byteStep_nib (r x : Nat) : Poly.byteStep r x = Poly.steps 4 (Poly.steps 4 (r ^^^ x)) := Poly.steps_add 4 4 _

set_option maxHeartbeats 1000000 in
theorem more_any (s : Nat) (ao : Option Addr) (n c : Nat) (xs : List Nat) (w : World) (hs : s < 4294967296) (hn : xs.length = n) (hx : Bytes xs) (hat : At w ao xs) (hT : Tab w) (hm : n ≤ 4611686018427387904) :
    Calls Tryd.prog 57 #[.int .u32 (s : Int), .slice ao n c] w fun e w' => e = .returned (.int .u32 ((Poly.more s xs : Nat) : Int)) ∧ w' = w := by
  have hinv : bits .xor .u32 IntKind.u32.max (s : Int) = ((4294967295 ^^^ s : Nat) : Int) := bits_xor_u32 4294967295 s (by decide) hs
  have hrl : 4294967295 ^^^ s < 4294967296 := Poly.xor_lt32 (by decide) hs
  have hM : Poly.more s xs = 4294967295 ^^^ Poly.run (4294967295 ^^^ s) xs := by rw [Poly.more, Nat.xor_comm]
  obtain ⟨M, hM2⟩ : ∃ M, M = Poly.more s xs := ⟨_, rfl⟩
  rw [← hM2]
  rw [← hM2] at hM
  generalize 4294967295 ^^^ s = r0 at *
  have HM := hide hM
  clear hM hM2
  have HA := hide (And.intro hn (And.intro hx (And.intro hat hT)))
  clear hn hx hat hT
  go_enter Tryd.func57, Tryd.ntmps57
  go_wp2
  go_loopg [5, 7, 12] n (fun k r y i wr => ∃ j : Nat, k + j = n ∧ i = .int .i64 j ∧ r = .int .u32 ((Poly.run r0 (xs.take j) : Nat) : Int) ∧ wr = w)
  case atStart => exact ⟨0, by omega, rfl, rfl, rfl⟩
  case round =>
    obtain ⟨j, hkj, rfl, rfl, rfl⟩ := hrel
    obtain ⟨hn, hx, hat, hT⟩ := HA.out
    have hR := Poly.run_lt (xs.take j) hrl (hx.take j)
    by_cases hk : 0 < gk
    · have hj : j < xs.length := by omega
      obtain ⟨a, rfl, hca⟩ := hat j xs[j] (by simp [hj])
      have hb := hx xs[j] (List.getElem_mem hj)
      have HR := hide (run_take hj r0)
      rw [byteStep_nib] at HR
      generalize xs[j] = x at *
      generalize Poly.run r0 (xs.take j) = R at *
      have h1 := bits_xor_u32 R x hR (by omega)
      have hl1 := Poly.xor_lt32 hR (show x < 4294967296 by omega)
      generalize R ^^^ x = R1 at *
      have h2 : bits .and .u32 (R1 : Int) 15 = ((R1 % 16 : Nat) : Int) := by have := bits_and_u32 R1 15 hl1 (by decide); rw [and_15] at this; exact this
      have hc1 := hT (R1 % 16) (by omega)
      have h3 : bits .xor .u32 ((R1 : Int) / 16) ((Poly.steps 4 (R1 % 16) : Nat) : Int) = ((Poly.steps 4 R1 : Nat) : Int) := by
        rw [← Poly.nib R1]; exact bits_xor_u32 (R1 / 16) _ (by omega) (Poly.steps_lt 4 (by omega))
      have hl2 := Poly.steps_lt 4 hl1
      have hi1 : ((R1 % 16 : Nat) : Int) < 16 := by omega
      generalize Poly.steps 4 (R1 % 16) = t1 at *
      generalize R1 % 16 = i1 at *
      generalize Poly.steps 4 R1 = R2 at *
      have h4 : bits .and .u32 (R2 : Int) 15 = ((R2 % 16 : Nat) : Int) := by have := bits_and_u32 R2 15 hl2 (by decide); rw [and_15] at this; exact this
      have hc2 := hT (R2 % 16) (by omega)
      have h5 : bits .xor .u32 ((R2 : Int) / 16) ((Poly.steps 4 (R2 % 16) : Nat) : Int) = ((Poly.steps 4 R2 : Nat) : Int) := by
        rw [← Poly.nib R2]; exact bits_xor_u32 (R2 / 16) _ (by omega) (Poly.steps_lt 4 (by omega))
      have hi2 : ((R2 % 16 : Nat) : Int) < 16 := by omega
      generalize Poly.steps 4 (R2 % 16) = t2 at *
      generalize R2 % 16 = i2 at *
      generalize Poly.steps 4 R2 = R3 at *
      have hj1 : (j : Int) < (n : Int) := by omega
      clear hn hx hat hT HA hj
      go_wp2
      go_roundg (gk - 1)
      case measure => omega
      case rel => exact ⟨j + 1, by omega, by go_num, by rw [HR.out], rfl⟩
    · have hj : j = n := by omega
      subst hj
      rw [List.take_of_length_le (by omega)] at hR ⊢
      have h1 : bits .xor .u32 IntKind.u32.max ((Poly.run r0 xs : Nat) : Int) = (M : Int) := by rw [HM.out]; exact bits_xor_u32 4294967295 _ (by decide) hR
      clear HM
      generalize Poly.run r0 xs = z at *
      clear hn hx hat hT HA
      go_wp2
      go_ret
      exact ⟨rfl, rfl⟩

set_option maxHeartbeats 400000 in
theorem sum_any (ao : Option Addr) (n c : Nat) (xs : List Nat) (w : World) (hn : xs.length = n) (hx : Bytes xs) (hat : At w ao xs) (hT : Tab w) (hm : n ≤ 4611686018427387904) :
    Calls Tryd.prog 25 #[.slice ao n c] w fun e w' => e = .returned (.int .u32 ((Poly.more 0 xs : Nat) : Int)) ∧ w' = w := by
  have HM := hide (more_any 0 ao n c xs w (by decide) hn hx hat hT hm)
  generalize Poly.more 0 xs = M at *
  clear hn hx hat hT hm
  go_enter Tryd.func25, Tryd.ntmps25
  go_wp2_with fail
  refine HM.out.mono ?_
  rintro e w' ⟨rfl, rfl⟩
  go_wp2
  go_ret
  exact ⟨rfl, rfl⟩
end Go.Proofs.YtoeehajdmdmemabDoor.Cr
