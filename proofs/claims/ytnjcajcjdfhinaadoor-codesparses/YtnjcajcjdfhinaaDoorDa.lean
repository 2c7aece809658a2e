/- The document's doubled, Check, Worth. -/
import Derived.Test.YtnjcajcjdfhinaaDoorCf
namespace Go.Proofs.YtnjcajcjdfhinaaDoor
open Go.RowKit Cn
attribute [local go_sem ↓] Go.wp_at_zero Go.wp_at_succ

theorem bits_xor_i64 (a b : Nat) (ha : a < 9223372036854775808) (hb : b < 9223372036854775808) : bits .xor .i64 (a : Int) (b : Int) = ((a ^^^ b : Nat) : Int) := by
  have hx : a ^^^ b < 2 ^ 63 := Nat.xor_lt_two_pow (by omega) (by omega)
  have h1 : (BitVec.ofInt 64 (a : Int)).toNat = a := by
    rw [BitVec.ofInt_natCast, BitVec.toNat_ofNat]; exact Nat.mod_eq_of_lt (by omega)
  have h2 : (BitVec.ofInt 64 (b : Int)).toNat = b := by
    rw [BitVec.ofInt_natCast, BitVec.toNat_ofNat]; exact Nat.mod_eq_of_lt (by omega)
  show IntKind.i64.wrap ((BitVec.ofInt 64 (a : Int) ^^^ BitVec.ofInt 64 (b : Int)).toNat : Int) = _
  rw [BitVec.toNat_xor, h1, h2, IntKind.wrap_i64]
  omega
set_option maxHeartbeats 400000 in
theorem rdoubled_any (x : Nat) (hx : x < 32) (w : World) : Calls Tryd.prog 22 #[.int .i64 (x : Int)] w fun e w' => e = .returned (.int .i64 ((dbl x : Nat) : Int)) ∧ w' = w := by
  have hw : IntKind.i64.wrap (2 * (x : Int)) = ((2 * x : Nat) : Int) := by rw [IntWalk.i64_in _ (by omega)]; omega
  have hm : 2 * (x : Int) = ((2 * x : Nat) : Int) := by omega
  have hxor : bits .xor .i64 ((2 * x : Nat) : Int) 37 = (((2 * x) ^^^ 37 : Nat) : Int) := bits_xor_i64 (2 * x) 37 (by omega) (by decide)
  by_cases h : x < 16
  · rw [show dbl x = 2 * x by simp [dbl, h]]
    have h1 : (x : Int) < 16 := by omega
    generalize 2 * x = y at *
    clear hxor h
    go_enter Tryd.func22, Tryd.ntmps22
    go_wp2
    go_ret
    exact ⟨rfl, rfl⟩
  · rw [show dbl x = (2 * x) ^^^ 37 by simp [dbl, h]]
    have h1 : ¬ (x : Int) < 16 := by omega
    generalize (2 * x) ^^^ 37 = z at *
    generalize 2 * x = y at *
    clear h
    go_enter Tryd.func22, Tryd.ntmps22
    go_wp2
    go_ret
    exact ⟨rfl, rfl⟩

/-- xs lies, number by number, where ao leads. -/
def At (w : World) (ao : Option Addr) (xs : List Nat) : Prop := ∀ (j u : Nat), xs[j]? = some u → ∃ a, ao = some a ∧ w.cell? (a.add j) = some (.int .i64 (u : Int))
set_option maxHeartbeats 1000000 in
theorem rcheck_any (ao : Option Addr) (n cap : Nat) (l : List Nat) (hlen : l.length = n) (hn : n ≤ 1000) (hl : Low l) (w : World) (hA : At w ao l) :
    Calls Tryd.prog 17 #[.slice ao n cap] w fun e w' => e = .returned (.int .i64 ((chk 0 l : Nat) : Int)) ∧ w' = w := by
  obtain ⟨M, hM⟩ : ∃ M, M = chk 0 l := ⟨_, rfl⟩
  rw [← hM]
  have HM := hide (And.intro hM.symm (And.intro hlen (And.intro hl hA)))
  clear hM hlen hl hA
  go_enter Tryd.func17, Tryd.ntmps17
  go_wp2
  go_loopg [3, 4] n (fun k c i wr => ∃ j C : Nat, k + j = n ∧ i = .int .i64 (j : Int) ∧ c = .int .i64 (C : Int) ∧ C = chk 0 (l.take j) ∧ wr = w)
  case atStart => exact ⟨0, 0, by omega, rfl, rfl, rfl, rfl⟩
  case round =>
    obtain ⟨j, C, hkj, rfl, rfl, hC, rfl⟩ := hrel
    obtain ⟨hM, hlen, hl, hA⟩ := HM.out
    by_cases hk : 0 < gk
    · have hj : j < l.length := by omega
      have hx := hl _ (List.getElem_mem hj)
      obtain ⟨a, rfl, hcell⟩ := hA j _ (List.getElem?_eq_getElem hj)
      have hCl : C < 32 := by rw [hC]; exact chk_lt (by decide) (fun y hy => hl y (List.mem_of_mem_take hy))
      have hstep : chk 0 (l.take (j + 1)) = dbl (C ^^^ l[j]) := by
        rw [List.take_add_one, List.getElem?_eq_getElem hj, hC]; exact chk_snoc _ _ _
      have hxor := bits_xor_i64 C l[j] (by omega) (by omega)
      have hxl := xor_lt hCl hx
      have HD := hide (rdoubled_any (C ^^^ l[j]) hxl)
      generalize l[j] = x at *
      generalize (C ^^^ x : Nat) = y at *
      have HS := hide hstep
      have hj1 : (j : Int) < (n : Int) := by omega
      have hj0 : (0 : Int) ≤ (j : Int) := by omega
      clear hM hlen hl hA hC hstep hj hx hCl
      generalize dbl y = z at *
      go_wp2_with fail
      refine (HD.out _).mono ?_
      rintro e w1 ⟨rfl, rfl⟩
      go_wp2
      go_roundg (gk - 1)
      case measure => omega
      case rel => exact ⟨j + 1, z, by omega, by go_num, rfl, HS.out.symm, rfl⟩
    · have hj : j = n := by omega
      rw [hj, ← hlen, List.take_length, hM] at hC
      subst hC
      have hj1 : ¬ (j : Int) < (n : Int) := by omega
      clear hM hlen hl hA HM hj
      go_wp2
      go_ret
      exact ⟨rfl, rfl⟩
theorem wr_out {x : UInt8} (h : ∀ j, j < 32 → (lt j).toNat ≠ x.toNat) : Cn.wr x = -1 := by
  rcases wr_cases x with h1 | ⟨d, h1, h2, h3⟩
  · exact h1
  · exact absurd (congrArg UInt8.toNat h3) (h d h1)
theorem wr_in {x : UInt8} {j : Nat} (hj : j < 32) (h : (lt j).toNat = x.toNat) : Cn.wr x = (j : Int) := by
  rw [← UInt8.toNat_inj.1 h]; exact lt_wr hj
theorem lets_index64 {d : Nat} (h : d < 32) (w : World) : (Instr.index 9 (.string ⟨#[50, 51, 52, 53, 54, 55, 56, 57, 65, 66, 67, 68, 69, 70, 71, 72, 74, 75, 76, 77, 78, 80, 81, 82, 83, 84, 85, 86, 87, 88, 89, 90]⟩) (.int .i64 (d : Int))).run Tryd.prog w = .ok (.int .u8 ((lt d).toNat : Int)) w :=
  index_at (l := lets) (lets_at h) w
set_option maxHeartbeats 1000000 in
theorem rworth_any (x : UInt8) (w : World) : Calls Tryd.prog 21 #[.int .u8 (x.toNat : Int)] w fun e w' => e = .returned (.int .i64 (Cn.wr x)) ∧ w' = w := by
  obtain ⟨V, hV⟩ : ∃ V, V = Cn.wr x := ⟨_, rfl⟩
  rw [← hV]
  have HV : Hid (V = Cn.wr x) := hV
  have HX := hide (fun j (hj : j < 32) (h : (lt j).toNat = x.toNat) => wr_in hj h)
  have HO := hide (fun (h : ∀ j, j < 32 → (lt j).toNat ≠ x.toNat) => wr_out h)
  rw [← hV] at HX HO
  clear hV HV
  generalize x.toNat = xn at *
  go_enter Tryd.func21, Tryd.ntmps21
  go_wp2
  go_loopg [3] 32 (fun k i wr => ∃ j : Nat, k + j = 32 ∧ i = .int .i64 (j : Int) ∧ (∀ i, i < j → (lt i).toNat ≠ xn) ∧ wr = w)
  case atStart => exact ⟨0, by omega, rfl, fun i hi => by omega, rfl⟩
  case round =>
    obtain ⟨j, hkj, rfl, hall, rfl⟩ := hrel
    have hj0 : (0 : Int) ≤ (j : Int) := by omega
    by_cases hk : 0 < gk
    · have hj : j < 32 := by omega
      have hj1 : (j : Int) < 32 := by omega
      have hix := lets_index64 hj
      by_cases he : (lt j).toNat = xn
      · have hv := HX.out j hj he
        subst hv
        rw [he] at hix
        clear hall HX HO he
        go_wp2
        go_ret
        exact ⟨rfl, rfl⟩
      · have HA := hide (And.intro hall he)
        have hne : (((lt j).toNat : Int) == (xn : Int)) = false := by simp; omega
        have hne3 : decide (((lt j).toNat : Int) = (xn : Int)) = false := by simp; omega
        obtain ⟨u, hu⟩ : ∃ u, u = (lt j).toNat := ⟨_, rfl⟩
        rw [← hu] at hix hne hne3
        clear hall he HX HO hu
        go_wp2
        go_roundg (gk - 1)
        case measure => omega
        case rel =>
          refine ⟨j + 1, by omega, by go_num, ?_, rfl⟩
          intro i hi
          by_cases e : i = j
          · rw [e]; exact HA.out.2
          · exact HA.out.1 i (by omega)
    · have hj : j = 32 := by omega
      subst hj
      have hv := HO.out hall
      subst hv
      clear hall HX HO
      go_wp2
      go_ret
      exact ⟨rfl, rfl⟩
end Go.Proofs.YtnjcajcjdfhinaaDoor
